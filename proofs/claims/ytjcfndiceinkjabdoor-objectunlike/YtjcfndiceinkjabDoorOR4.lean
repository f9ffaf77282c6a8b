/- The document's bytes of an object: a snapshot. -/
import Derived.Test.YtjcfndiceinkjabDoorORm
namespace Go.Proofs.YtjcfndiceinkjabDoor
set_option linter.unusedVariables false
set_option linter.unusedSimpArgs false
open Go.RowKit

set_option maxRecDepth 20000 in
set_option maxHeartbeats 4000000 in
theorem rlaid_4 (w : World) (o : ObjR) (v : ObjV) (hr : ObjRd w o v) (hkd : o.kind = 4) (hs : TxtSz o) (hn : o.parents.length ≤ 128) (hnt : o.note.length ≤ 1024) : Calls Tryd.prog 39 #[.agg (objL o v).toArray] w (OwnC w (layO o)) := by
  have hA0 : ObjAt (w.alloc (.cells (objL o v).toArray 30)) w.heap.size o v := Blk.made w _ _
  have c0 := hA0.cKind
  have hk : o.kind ≤ 255 := by omega
  have RR := hide hr
  have b1 : ((o.kind : Int) == 1) = false := by simp; omega
  have b2 : ((o.kind : Int) == 2) = false := by simp; omega
  have b3 : ((o.kind : Int) == 3) = false := by simp; omega
  have b4 : ((o.kind : Int) == 4) = true := by simp; omega
  have HE : Hid (layO o = fixB 1 o.kind ++ (o.tree ++ varB o.parents.length ++ o.parents.flatten ++ fixB 8 (timeN o) ++ (varB o.note.length ++ o.note))) := hide (by unfold layO; rw [if_neg (by omega), if_neg (by omega), if_neg (by omega), if_pos hkd])
  have HS := hide hs
  obtain ⟨ao, c, ev, hpl⟩ := hr.k.slice
  rw [List.length_map] at ev hpl
  obtain ⟨n, hnn⟩ : ∃ n, n = o.parents.length := ⟨_, rfl⟩
  rw [← hnn] at ev hpl HE hn
  have HN := hide hnn
  have EV := hide ev
  have hwn := wrapu_nat n hpl
  have OKt : Hid (o.tree.length = 32) := hide hr.ok.t
  have HNT := hide hnt
  have FL : Hid (∀ k, k ≤ n → (o.parents.take k).flatten.length ≤ 128 * 32) := hide (fun k hk => by
    have := flat_take_le (fun x : List UInt8 => x) 32 o.parents (fun p hp => by have e : p.length = 32 := hr.ok.k p hp; omega) k (by omega)
    rw [List.map_id'] at this
    exact this)
  clear hs hnn ev hnt
  obtain ⟨W0, hW0⟩ : ∃ W, W = w.alloc (.cells (objL o v).toArray 30) := ⟨_, rfl⟩
  have HR0 : Hid (RL w (W0.alloc (.cells #[.int .u8 (o.kind : Int)] 5)) o v (.slice none 0 0) []) := hide (by
    have h0 : RL w W0 o v (.slice none 0 0) [] := by rw [hW0]; exact ⟨World.ownsRow_nil _ _ _ _, hA0, below_alloc w _⟩
    exact h0.below (below_alloc _ _))
  have RD0 := hide (rd_one o.kind hk W0)
  have RD0 : Hid (RdA ((w.alloc (.cells (objL o v).toArray 30)).alloc (.cells #[.int .u8 (o.kind : Int)] 5)) (.slice (some ⟨w.heap.size + 1, 0, none⟩) 1 1) (fixB 1 o.kind)) := hide (by have := RD0.out; rw [hW0] at this; simpa using this)
  have OW0 : Hid (((w.alloc (.cells (objL o v).toArray 30)).alloc (.cells #[.int .u8 (o.kind : Int)] 5)).ownsRow (w.heap.size + 1) 5 1 (.slice none 0 0) ([] : List UInt8).length (([] : List UInt8).map u8c)) := hide (World.ownsRow_nil _ _ _ _)
  have BS0 : Hid (w.heap.size + 1 ≤ ((w.alloc (.cells (objL o v).toArray 30)).alloc (.cells #[.int .u8 (o.kind : Int)] 5)).heap.size) := hide (by simp)
  have LN0 : Hid (([] : List UInt8).length + (fixB 1 o.kind).length ≤ 140737488355000) := hide (by rw [fixB_len]; simp)
  clear hr hA0 hkd
  go_enter Tryd.func39, Tryd.ntmps39
  go_wp2_with (first
    | ((with_reducible refine wpList_append_rdX ?_ (.tmp 7) (.tmp 10) ?_ (w.heap.size + 1) (.slice none 0 0) (.slice (some ⟨w.heap.size + 1, 0, none⟩) 1 1) [] (fixB 1 o.kind) ?_ OW0.out ?_ RD0.out LN0.out BS0.out ?_); rfl; rfl; rfl; rfl; intro va1 w1 O1 G1 E1; generalize hG : wpList _ _ _ _ _ _ = G))
  have HL1 : Hid (RL w w1 o v va1 (fixB 1 o.kind)) := hide (by rw [hW0] at HR0; exact HR0.out.app (by simpa using O1.out) G1.out)
  have hA1 := HL1.out.obj
  have c0 := hA1.cKind
  clear HR0 RD0 OW0 BS0 O1 G1 E1 hW0 hA1
  obtain ⟨xs, hxs⟩ : ∃ x, x = fixB 1 o.kind := ⟨_, rfl⟩
  have HXL : Hid (xs.length = 1) := hide (by rw [hxs, fixB_len])
  have hvl := varB_len n
  rw [← hxs] at HL1 HE
  have RD2 : Hid (RdA w1 (.slice (some ⟨w.heap.size, 4, none⟩) 32 32) o.tree) := hide (rdA_key OKt.out (ObjAt.tree HL1.out.obj))
  have LN2 : Hid (xs.length + o.tree.length ≤ 140737488355000) := hide (by rw [HXL.out, OKt.out]; omega)
  have hsk := sliceKey
  clear hxs
  subst hG
  go_wp2_with (first
    | ((with_reducible refine wpList_append_rdX ?_ (.tmp 106) (.tmp 108) ?_ (w.heap.size + 1) va1 (.slice (some ⟨w.heap.size, 4, none⟩) 32 32) xs o.tree ?_ HL1.out.own ?_ RD2.out LN2.out HL1.out.size ?_); rfl; rfl; rfl; rfl; intro va2 w2 O2 G2 E2; generalize hG : wpList _ _ _ _ _ _ = G))
  have HL2 := hide (HL1.out.app O2.out G2.out)
  clear HL1 O2 G2 E2 RD2 LN2
  have c2 := HL2.out.obj.cK OKt.out
  rw [EV.out] at c2
  subst hG
  go_wp2_with fail
  refine (rvarb w2 n (by omega)).mono ?_
  rintro e w3 ⟨vv3, rfl, o3, hb3⟩
  have HL3 := hide (HL2.out.below hb3)
  have RD4 : Hid (RdA w3 vv3 (varB n)) := hide (.inl (Rd_owned o3))
  clear o3 hb3
  have LN4 : Hid ((xs ++ o.tree).length + (varB n).length ≤ 140737488355000) := hide (by rw [List.length_append, HXL.out, OKt.out]; omega)
  go_wp2_with (first
    | ((with_reducible refine wpList_append_rdX ?_ (.tmp 110) (.tmp 115) ?_ (w.heap.size + 1) va2 vv3 (xs ++ o.tree) (varB n) ?_ HL3.out.own ?_ RD4.out LN4.out HL3.out.size ?_); rfl; rfl; rfl; rfl; intro va4 w4 O4 G4 E4; generalize hG : wpList _ _ _ _ _ _ = G))
  have HL4 := hide (HL3.out.app O4.out G4.out)
  clear HL2 HL3 O4 G4 E4 RD4 LN4 c2
  have c2 := HL4.out.obj.cK OKt.out
  rw [EV.out] at c2
  obtain ⟨pre, hpre⟩ : ∃ x, x = xs ++ o.tree ++ varB n := ⟨_, rfl⟩
  rw [← hpre] at HL4
  have HPL : Hid (pre.length ≤ 43) := hide (by rw [hpre, List.length_append, List.length_append, HXL.out, OKt.out]; omega)
  have HPE : Hid (layO o = pre ++ o.parents.flatten ++ fixB 8 (timeN o) ++ (varB o.note.length ++ o.note)) := hide (by rw [HE.out, hpre]; simp)
  clear hpre HE hvl HXL
  subst hG
  go_wp2_with fail
  clear c2 b1 b2 b3 b4 c0
  go_loopw [3, 6] (fun s3 sk wr => ∃ (k : Nat) (va : Value), va = s3 ∧ sk = .int .i64 k ∧ k ≤ n ∧ RL w wr o v va (pre ++ (o.parents.take k).flatten)) (fun _ sk _ => n - (intOf sk).toNat)
  case atStart => exact ⟨0, _, rfl, rfl, by omega, by simpa using HL4.out⟩
  case round =>
    obtain ⟨k, va, hva, rfl, hk2, hL⟩ := hrel
    have HL := hide hL
    have c2 := hL.obj.cK OKt.out
    rw [EV.out] at c2
    clear HL4
    by_cases hlt : k < n
    · have hki : (k : Int) < (n : Int) := by omega
      have k1 : k < o.parents.length := by rw [← HN.out]; exact hlt
      obtain ⟨b, s, d, f1, r1⟩ := RR.out.k.at k (by rw [List.length_map]; exact k1)
      obtain ⟨g1, -, -⟩ := slice_of EV.out f1
      subst g1
      rw [List.getElem_map] at r1
      obtain ⟨p, hp⟩ : ∃ p, p = o.parents[k] := ⟨_, rfl⟩
      have op : okK p := by rw [hp]; exact RR.out.ok.k _ (List.getElem_mem _)
      rw [← hp] at r1
      have OKl : Hid (p.length = 32) := hide op
      have HFl : Hid ((o.parents.take (k + 1)).flatten = (o.parents.take k).flatten ++ p) := hide (by have := flat_succ (fun x : List UInt8 => x) o.parents k k1; rw [List.map_id', List.map_id'] at this; rw [this, ← hp])
      obtain ⟨xs, hxs⟩ : ∃ x, x = pre ++ (o.parents.take k).flatten := ⟨_, rfl⟩
      rw [← hxs] at HL
      have HXL : Hid (xs.length ≤ 43 + 4096) := hide (by have := FL.out k (by omega); have := HPL.out; rw [hxs, List.length_append]; omega)
      have HXE : Hid (pre ++ (o.parents.take (k + 1)).flatten = xs ++ p) := hide (by rw [HFl.out, hxs]; simp)
      have RD5 : Hid (RdA wr (.slice (some ⟨b, s + k * 32, none⟩) 32 32) p) := hide (rdA_key OKl.out (rangeAt_below r1 hL.old))
      have LN5 : Hid (xs.length + p.length ≤ 140737488355000) := hide (by have := HXL.out; have := OKl.out; omega)
      clear hL r1 f1 hp op hxs HFl
      subst hva
      go_wp2_with (first
        | ((with_reducible refine wpList_append_rdX ?_ (.tmp 124) (.tmp 129) ?_ (w.heap.size + 1) _ (.slice (some ⟨b, s + k * 32, none⟩) 32 32) xs p ?_ HL.out.own ?_ RD5.out LN5.out HL.out.size ?_); rfl; rfl; rfl; rfl; intro va5 w5 O5 G5 E5; generalize hG : wpList _ _ _ _ _ _ = G))
      have HL5 := hide (HL.out.app O5.out G5.out)
      clear HL O5 G5 E5 RD5 LN5 c2
      subst hG
      go_wp2
      exact ⟨⟨k + 1, va5, rfl, by go_num, by omega, by rw [HXE.out]; exact HL5.out⟩, by simp [intOf]; omega⟩
    · have hki : ¬ (k : Int) < (n : Int) := by omega
      obtain ⟨xs, hxs⟩ : ∃ x, x = pre ++ o.parents.flatten := ⟨_, rfl⟩
      have HL6 : Hid (RL w wr o v va xs) := hide (by have := HL.out; rw [List.take_of_length_le (by rw [← HN.out]; omega)] at this; rw [hxs]; exact this)
      have HXL : Hid (xs.length ≤ 43 + 4096) := hide (by have := FL.out n (Nat.le_refl _); rw [List.take_of_length_le (by rw [← HN.out]; omega)] at this; have := HPL.out; rw [hxs, List.length_append]; omega)
      rw [← hxs] at HPE
      have ct := HL6.out.obj.cTime OKt.out
      have cn := HL6.out.obj.cNote OKt.out
      obtain ⟨tm, htm⟩ : ∃ x, x = o.time := ⟨_, rfl⟩
      rw [← htm] at ct
      have hwt : IntKind.u64.wrap tm = ((timeN o : Nat) : Int) := by unfold timeN; rw [htm]; exact (Int.toNat_of_nonneg (by rw [IntKind.wrap_u64]; omega)).symm
      have HTB : Hid (timeN o ≤ 18446744073709551615) := hide (by have := hwt; rw [IntKind.wrap_u64] at this; omega)
      obtain ⟨tn, htn⟩ : ∃ x, x = timeN o := ⟨_, rfl⟩
      rw [← htn] at hwt HTB HPE
      have HF8 : Hid ((fixB 8 tn).length = 8) := hide (fixB_len _ _)
      clear hL HL htm hxs htn
      subst hva
      go_wp2_with fail
      refine (rfixedb wr tn 8 HTB.out (by omega)).mono ?_
      rintro e w7 ⟨vv7, rfl, o7, hb7⟩
      have HL7 := hide (HL6.out.below hb7)
      have RD8 : Hid (RdA w7 vv7 (fixB 8 tn)) := hide (.inl (Rd_owned o7))
      clear o7 hb7
      have LN8 : Hid (xs.length + (fixB 8 tn).length ≤ 140737488355000) := hide (by have := HXL.out; have := HF8.out; omega)
      go_wp2_with (first
        | ((with_reducible refine wpList_append_rdX ?_ (.tmp 131) (.tmp 135) ?_ (w.heap.size + 1) _ vv7 xs (fixB 8 tn) ?_ HL7.out.own ?_ RD8.out LN8.out HL7.out.size ?_); rfl; rfl; rfl; rfl; intro va8 w8 O8 G8 E8; generalize hG : wpList _ _ _ _ _ _ = G))
      have HL8 := hide (HL7.out.app O8.out G8.out)
      clear HL6 HL7 O8 G8 E8 RD8 LN8 ct cn c2
      have cn := HL8.out.obj.cNote OKt.out
      subst hG
      go_wp2_with fail
      refine (rtextb w8 o.note (by have := HNT.out; omega)).mono ?_
      rintro e w9 ⟨vv9, rfl, o9, hb9⟩
      have HL9 := hide (HL8.out.below hb9)
      have RD10 : Hid (RdA w9 vv9 (varB o.note.length ++ o.note)) := hide (.inl (Rd_owned o9))
      clear o9 hb9
      have hvn := varB_len o.note.length
      have LN10 : Hid ((xs ++ fixB 8 tn).length + (varB o.note.length ++ o.note).length ≤ 140737488355000) := hide (by have := HXL.out; have := HF8.out; have := HNT.out; simp only [List.length_append]; omega)
      clear hvn
      go_wp2_with (first
        | ((with_reducible refine wpList_append_rdX ?_ (.tmp 137) (.tmp 140) ?_ (w.heap.size + 1) va8 vv9 (xs ++ fixB 8 tn) (varB o.note.length ++ o.note) ?_ HL9.out.own ?_ RD10.out LN10.out HL9.out.size ?_); rfl; rfl; rfl; rfl; intro va10 w10 O10 G10 E10; generalize hG : wpList _ _ _ _ _ _ = G))
      have HL10 := hide (HL9.out.app O10.out G10.out)
      clear HL8 HL9 O10 G10 E10 RD10 LN10 cn
      subst hG
      go_wp2
      go_ret
      exact ⟨va10, rfl, by rw [HPE.out]; exact own_baseB HL10.out.own (by omega), HL10.out.old⟩
end Go.Proofs.YtjcfndiceinkjabDoor
