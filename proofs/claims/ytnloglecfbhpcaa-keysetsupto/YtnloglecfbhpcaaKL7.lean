/- KeySets: for every input whose bulk is at most 1048576 the call returns true, and the argument reads afterwards as it read before. -/
import Derived.Test.YtnloglecfbhpcaaKL6
import Derived.Test.YtnloglecfbhpcaaRows
import Derived.ChangeSame
import Derived.ChangeVars
import Derived.JoinedOf
import Derived.RowKit
import Derived.ProofKit
import Derived.OpenShut
import Derived.ChangeOld
import Derived.SizedLaws
import Derived.JoinedCond
import Derived.Deep.CondSized
import Derived.Deep.Slices
import Derived.Deep.Strs
namespace Go.Proofs.Ytnloglecfbhpcaa
set_option linter.unusedVariables false
set_option linter.unusedSimpArgs false
open Go.ChangeShapes Go.WideShapes Go.ChangeAt Go.RowKit Go.Deep

theorem cellsU8k : Try.prog.cellsOf 5 = 1 := by kernel_rfl
theorem cellsKey : Try.prog.cellsOf 38 = 32 := by kernel_rfl
theorem cellsStrk : Try.prog.cellsOf 9 = 1 := by kernel_rfl
theorem open_keyC {H : Type} {enc : TypeId × Value → H} {W : World} {base : Nat} {spare : Nat → Bool} {held : Bool} {fuel : Nat} {cs : List Value} {x : DataW H × List MemPlace}
    (h : DataW.trod enc Try.prog W base spare held fuel 38 cs = some x) : ∃ bs : List UInt8, bs.length = 32 ∧ cs = bs.map u8c := by
  obtain ⟨xs, m, _, _, hl, hxl, hx⟩ := DataW.trod_array Try.underlying38 h
  rw [cellsKey] at hl
  have each : ∀ i, i < 32 → ∃ b : UInt8, cs[i]? = some (u8c b) := by
    intro i hi
    have h1 := hx i hi
    rw [cellsU8k, Nat.mul_one, List.getElem?_eq_getElem (by omega)] at h1
    obtain ⟨n, hn, _, hw⟩ := DataW.trod_int Try.underlying5 h1
    have hb : 0 ≤ n ∧ n ≤ 255 := by simpa [Lit.wf, IntKind.min, IntKind.max, IntKind.signed, IntKind.bits] using hw
    refine ⟨UInt8.ofNat n.toNat, ?_⟩
    rw [List.drop_eq_getElem_cons (show i < cs.length by omega)] at hn
    have h2 : cs[i]'(by omega) = .int .u8 n := (List.cons.inj hn).1
    rw [List.getElem?_eq_getElem (by omega), h2]
    unfold u8c
    rw [UInt8.toNat_ofNat']
    congr 2
    omega
  obtain ⟨f, hf⟩ := choose_lt each
  refine ⟨(List.range 32).map f, by simp, ?_⟩
  apply List.ext_getElem?
  intro i
  rcases Nat.lt_or_ge i 32 with hi | hi
  · rw [hf i hi]; simp [hi]
  · rw [List.getElem?_eq_none (by omega), List.getElem?_eq_none (by simpa using hi)]
theorem ownA : ownKnob Try.prog.godebug = none := by kernel_rfl
theorem laidOutA : laidOutB Try.prog = true := by kernel_rfl
theorem bulk_posA {H : Type} (d : DataW H) : 1 ≤ Rows.uptoBulk d := by
  cases d with
  | lit l => cases l <;> simp [Rows.uptoBulk]
  | _ => simp [Rows.uptoBulk]
theorem bulk_lenA {H : Type} : ∀ l : List (DataW H), l.length ≤ Rows.uptoBulkAll l
  | [] => by simp
  | d :: l => by
    have h1 := bulk_posA d
    have h2 := bulk_lenA l
    simp only [Rows.uptoBulkAll, List.length_cons]
    omega
theorem small_leA {H : Type} {l : List (DataW H)} (hk : Rows.uptoSmall H l = true) : Rows.uptoBulkAll l ≤ 1048576 := of_decide_eq_true hk
/-- A row of keys opened. -/
theorem open_keysA {H : Type} {enc : TypeId × Value → H} {W : World} {fuel : Nat} {aa : Option Addr} {n c : Nat} {d : DataW H} {p : List MemPlace}
    (h : DataW.trod enc Try.prog W 0 (fun _ => true) true fuel 39 [.slice aa n c] = some (d, p)) : ∃ ks, n = ks.length ∧ KRow W aa ks ∧ n ≤ Rows.uptoBulk d := by
  rcases open_slice Try.underlying39 h with ⟨hcs, hx⟩ | ⟨a, len, cap, m, q, D, Pl, hcs, _, hl, hm, hmm, hx, hxr⟩
  · obtain ⟨rfl, rfl, rfl⟩ := (Value.slice.injEq ..).mp (List.cons.inj hcs).1
    exact ⟨[], rfl, ⟨fun i hi => absurd hi (by simp), fun k hk => absurd hk (by simp)⟩, Nat.zero_le _⟩
  · obtain ⟨rfl, rfl, rfl⟩ := (Value.slice.injEq ..).mp (List.cons.inj hcs).1
    simp only [if_true] at hmm
    rw [cellsKey] at hxr
    have each : ∀ i, i < n → ∃ x : List UInt8, x.length = 32 ∧ ∃ b o, a = ⟨b, o, none⟩ ∧ W.rangeAt b (o + i * 32) (x.map u8c) := by
      intro i hi
      obtain ⟨cs', h1, ht⟩ := hxr i (by omega)
      obtain ⟨_, hl32, hc⟩ := World.cells?_some h1
      obtain ⟨x, hp, rfl⟩ := open_keyC ht
      obtain ⟨b, o, rfl⟩ : ∃ b o, a = ⟨b, o, none⟩ := by
        obtain ⟨cs0, h10, _⟩ := hxr 0 (by omega)
        obtain ⟨_, hl0, hc0⟩ := World.cells?_some h10
        have h2 := hc0 0 (by omega)
        rw [List.getElem?_eq_getElem (by omega)] at h2
        obtain ⟨b, o, spot⟩ := a
        have hs : spot = none := by simpa [Addr.add] using World.cell?_spot h2
        exact ⟨b, o, by rw [hs]⟩
      refine ⟨x, hp, b, o, rfl, fun j u hj => ?_⟩
      have hjl : j < 32 := by
        have := (List.getElem?_eq_some_iff.1 hj).1
        simpa [hp] using this
      have h2 := hc j hjl
      rw [Addr.add_mid, Addr.add_mid] at h2
      rw [h2]; exact hj
    obtain ⟨f, hf⟩ := choose_lt each
    refine ⟨(List.range n).map f, by simp, ⟨fun i hi => ?_, fun k hk => ?_⟩, ?_⟩
    · have hin : i < n := by simpa using hi
      obtain ⟨hp, b, o, rfl, hr⟩ := hf i hin
      have e : ((List.range n).map f)[i]'hi = f i := by simp
      rw [e]
      exact ⟨b, o, rfl, hr⟩
    · obtain ⟨i, hi, rfl⟩ := List.mem_map.1 hk
      exact (hf i (List.mem_range.1 hi)).1
    · have hd := (Prod.mk.inj hx).1
      rw [hd]
      have := bulk_lenA ((List.range n).map D)
      simp only [List.length_map, List.length_range] at this
      simp only [Rows.uptoBulk]
      omega
theorem open_keysV {H : Type} {enc : TypeId × Value → H} {W : World} {fuel : Nat} {v : Value} {d : DataW H} {p : List MemPlace}
    (h : DataW.trod enc Try.prog W 0 (fun _ => true) true fuel 39 [v] = some (d, p)) : ∃ aa n c ks, v = .slice aa n c ∧ n = ks.length ∧ KRow W aa ks ∧ n ≤ Rows.uptoBulk d := by
  have h0 := h
  rcases open_slice Try.underlying39 h with ⟨hcs, hx⟩ | ⟨a, len, cap, m, q, D, Pl, hcs, _, hl, hm, hmm, hx, hxr⟩
  · obtain rfl := (List.cons.inj hcs).1
    obtain ⟨ks, h1, h2, h3⟩ := open_keysA h0
    exact ⟨_, _, _, ks, rfl, h1, h2, h3⟩
  · obtain rfl := (List.cons.inj hcs).1
    obtain ⟨ks, h1, h2, h3⟩ := open_keysA h0
    exact ⟨_, _, _, ks, rfl, h1, h2, h3⟩
theorem cellsIntA : Try.prog.cellsOf 3 = 1 := by kernel_rfl
theorem cellsBoolA : Try.prog.cellsOf 4 = 1 := by kernel_rfl
theorem cellsKsA : Try.prog.cellsOf 39 = 1 := by kernel_rfl
theorem cellsStepA : Try.prog.cellsOf 41 = 38 := by kernel_rfl
theorem cut (cs : List Value) (o n : Nat) : cs.drop o = (cs.drop o).take n ++ cs.drop (o + n) := by
  rw [← List.drop_drop]; exact (List.take_append_drop n _).symm
theorem cut0 (cs : List Value) (n : Nat) (h : cs.length = n) : cs.drop n = [] := List.drop_of_length_le (by omega)
theorem bulk_memA {H : Type} : ∀ {l : List (DataW H)} {d : DataW H}, d ∈ l → Rows.uptoBulk d ≤ Rows.uptoBulkAll l
  | [], _, h => by cases h
  | e :: l, d, h => by
    simp only [Rows.uptoBulkAll]
    rcases List.mem_cons.1 h with rfl | h
    · omega
    · have := bulk_memA h
      omega
structure SkIn (W : World) (M : Nat) (s : SK) : Prop where
  k32 : s.key.length = 32
  kn : s.kn = s.ks.length
  row : KRow W s.ao s.ks
  le : s.kn ≤ M
  pl : s.pre.length ≤ 9223372036854775807
theorem open_skC {H : Type} {enc : TypeId × Value → H} {W : World} {fuel : Nat} {cs : List Value} {x : DataW H × List MemPlace}
    (h : DataW.trod enc Try.prog W 0 (fun _ => true) true fuel 41 cs = some x) : ∃ s : SK, cs = skC s ∧ SkIn W (Rows.uptoBulk x.1) s := by
  obtain ⟨ys, m, _, hxx, hl, hyl, hf⟩ := DataW.trod_struct Try.underlying41 h
  rw [cellsStepA] at hl
  have hyl2 : ys.length = 7 := hyl
  have g0 : DataW.trod enc Try.prog W 0 (fun _ => true) true m 3 ((cs.drop 0).take (Try.prog.cellsOf 3)) = ys[0]? := hf 0 _ rfl
  have g1 : DataW.trod enc Try.prog W 0 (fun _ => true) true m 3 ((cs.drop 1).take (Try.prog.cellsOf 3)) = ys[1]? := hf 1 _ rfl
  have g2 : DataW.trod enc Try.prog W 0 (fun _ => true) true m 3 ((cs.drop 2).take (Try.prog.cellsOf 3)) = ys[2]? := hf 2 _ rfl
  have g3 : DataW.trod enc Try.prog W 0 (fun _ => true) true m 38 ((cs.drop 3).take (Try.prog.cellsOf 38)) = ys[3]? := hf 3 _ rfl
  have g4 : DataW.trod enc Try.prog W 0 (fun _ => true) true m 39 ((cs.drop 35).take (Try.prog.cellsOf 39)) = ys[4]? := hf 4 _ rfl
  have g5 : DataW.trod enc Try.prog W 0 (fun _ => true) true m 4 ((cs.drop 36).take (Try.prog.cellsOf 4)) = ys[5]? := hf 5 _ rfl
  have g6 : DataW.trod enc Try.prog W 0 (fun _ => true) true m 9 ((cs.drop 37).take (Try.prog.cellsOf 9)) = ys[6]? := hf 6 _ rfl
  rw [cellsIntA, List.getElem?_eq_getElem (by omega)] at g0 g1 g2
  rw [cellsKey, List.getElem?_eq_getElem (by omega)] at g3
  rw [cellsKsA] at g4
  rw [cellsBoolA, List.getElem?_eq_getElem (by omega)] at g5
  rw [cellsStrk, List.getElem?_eq_getElem (by omega)] at g6
  obtain ⟨kd, f0, _, _⟩ := DataW.trod_int Try.underlying3 g0
  obtain ⟨on, f1, _, _⟩ := DataW.trod_int Try.underlying3 g1
  obtain ⟨wi, f2, _, _⟩ := DataW.trod_int Try.underlying3 g2
  obtain ⟨k, hk, f3⟩ := open_keyC g3
  obtain ⟨any, f5, _⟩ := DataW.trod_bool Try.underlying4 g5
  obtain ⟨t, f6, _, w6⟩ := DataW.trod_string Try.underlying9 g6
  obtain ⟨v4, f4⟩ : ∃ v4, (cs.drop 35).take 1 = [v4] := by
    obtain ⟨y, hy⟩ : ∃ y, cs.drop 35 = y :: cs.drop 36 := ⟨cs[35], List.drop_eq_getElem_cons (by omega)⟩
    exact ⟨y, by rw [hy]; rfl⟩
  rw [f4, List.getElem?_eq_getElem (by omega)] at g4
  obtain ⟨aa, n, c, ks, rfl, e1, e2, e3⟩ := open_keysV (d := (ys[4]'(by omega)).1) (p := (ys[4]'(by omega)).2) g4
  have hpre : (⟨t.data.toList.toArray⟩ : ByteArray) = t := by cases t; simp
  refine ⟨⟨kd, on, wi, k, aa, n, c, ks, any, t.data.toList⟩, ?_, hk, e1, e2, ?_, ?_⟩
  · rw [show cs = cs.drop 0 from rfl, cut cs 0 1, f0, cut cs 1 1, f1, cut cs 2 1, f2, cut cs 3 32, f3, cut cs 35 1, f4, cut cs 36 1, f5, cut cs 37 1, f6, cut0 cs 38 hl]
    simp only [skC, hpre, List.append_assoc, List.cons_append, List.nil_append, List.append_nil]
  · refine Nat.le_trans e3 ?_
    have e : x.1 = .agg (ys.map (·.1)) := by rw [hxx]
    rw [e]
    have := bulk_memA (l := ys.map (·.1)) (d := (ys[4]'(by omega)).1) (List.mem_map.2 ⟨_, List.getElem_mem _, rfl⟩)
    simp only [Rows.uptoBulk]
    omega
  · have h1 : t.size ≤ 9223372036854775807 := by
      unfold maxLen at w6
      exact w6
    show t.data.toList.length ≤ _
    rw [Array.length_toList]
    exact h1
def zSK : SK := ⟨0, 0, 0, List.replicate 32 0, none, 0, 0, [], false, []⟩
theorem open_sks {H : Type} {enc : TypeId × Value → H} {W : World} {fuel : Nat} {v : Value} {d : DataW H} {p : List MemPlace}
    (h : DataW.trod enc Try.prog W 0 (fun _ => true) true fuel 22 [v] = some (d, p)) : ∃ L : List SK, SkR W v L ∧ (∀ s ∈ L, SkIn W (Rows.uptoBulk d) s) ∧ L.length ≤ Rows.uptoBulk d := by
  rcases open_slice Try.underlying22 h with ⟨hcs, hx⟩ | ⟨a, len, cap, m, q, D, Pl, hcs, _, hl, hm, hmm, hx, hxr⟩
  · exact ⟨[], ⟨none, 0, (List.cons.inj hcs).1, fun W hb i s h => (by simp at h)⟩, fun s hs => (by cases hs), Nat.zero_le _⟩
  · simp only [if_true] at hmm
    rw [cellsStepA] at hxr
    have hd := (Prod.mk.inj hx).1
    have hbk : ∀ i, i < len → Rows.uptoBulk (D i) ≤ Rows.uptoBulk d := by
      intro i hi
      rw [hd]
      have := bulk_memA (l := (List.range len).map D) (d := D i) (List.mem_map.2 ⟨i, List.mem_range.2 hi, rfl⟩)
      simp only [Rows.uptoBulk]
      omega
    have each : ∀ i, i < len → ∃ x : SK, SkIn W (Rows.uptoBulk d) x ∧ ∃ b o, a = ⟨b, o, none⟩ ∧ W.rangeAt b (o + i * 38) (skC x) := by
      intro i hi
      obtain ⟨cs', h1, ht⟩ := hxr i (by omega)
      obtain ⟨_, hl32, hc⟩ := World.cells?_some h1
      obtain ⟨x, rfl, hin⟩ := open_skC ht
      obtain ⟨b, o, rfl⟩ : ∃ b o, a = ⟨b, o, none⟩ := by
        obtain ⟨cs0, h10, _⟩ := hxr 0 (by omega)
        obtain ⟨_, hl0, hc0⟩ := World.cells?_some h10
        have h2 := hc0 0 (by omega)
        rw [List.getElem?_eq_getElem (by omega)] at h2
        obtain ⟨b, o, spot⟩ := a
        have hs : spot = none := by simpa [Addr.add] using World.cell?_spot h2
        exact ⟨b, o, by rw [hs]⟩
      refine ⟨x, ⟨hin.k32, hin.kn, hin.row, Nat.le_trans hin.le (hbk i hi), hin.pl⟩, b, o, rfl, fun j u hj => ?_⟩
      have hjl : j < 38 := by
        have := (List.getElem?_eq_some_iff.1 hj).1
        rw [skC_len hin.k32] at this
        exact this
      have h2 := hc j hjl
      rw [Addr.add_mid, Addr.add_mid] at h2
      rw [h2]; exact hj
    haveI : Inhabited SK := ⟨zSK⟩
    obtain ⟨f, hf⟩ := choose_lt each
    refine ⟨(List.range len).map f, ⟨some a, cap, ?_, fun W' hb j x hj => ?_⟩, fun s hs => ?_, ?_⟩
    · rw [List.length_map, List.length_range]
      exact (List.cons.inj hcs).1
    · obtain ⟨hj1, hj2⟩ := List.getElem?_eq_some_iff.1 hj
      have hjl : j < len := by simpa using hj1
      obtain ⟨_, b2, o2, rfl, hr⟩ := hf j hjl
      have e : f j = x := by rw [← hj2]; simp
      rw [← e]
      exact ⟨b2, o2, rfl, fun i u hi => (hb.cell (World.block_lt_of_cell? W _ (hr i u hi))).trans (hr i u hi)⟩
    · obtain ⟨i, hi, rfl⟩ := List.mem_map.1 hs
      exact (hf i (List.mem_range.1 hi)).1
    · rw [hd]
      have := bulk_lenA ((List.range len).map D)
      simp only [List.length_map, List.length_range] at this ⊢
      simp only [Rows.uptoBulk]
      omega
def keysOf (SC : List SK) : List (List UInt8) := SC.flatMap fun s => s.key :: s.ks
theorem keysOf_len (M : Nat) : ∀ SC : List SK, (∀ s ∈ SC, s.ks.length ≤ M) → (keysOf SC).length ≤ SC.length * (M + 1)
  | [], _ => Nat.zero_le _
  | s :: r, h => by
    have h1 := keysOf_len M r (fun x hx => h x (List.mem_cons_of_mem _ hx))
    have h2 := h s (List.mem_cons_self ..)
    unfold keysOf at h1 ⊢
    rw [List.flatMap_cons, List.length_append, List.length_cons, List.length_cons, Nat.succ_mul]
    omega
set_option maxRecDepth 100000 in
theorem contractX (H : Type) (enc : TypeId × Value → H) (W : World) (base : Nat) (args : Array Value) (ds gs : List (DataW H)) (before : List MemPlace)
    (hval : ∀ (j : Nat) t v, Try.f3.params[j]? = some t → args[j]? = some v → Value.okWide Try.prog W .any base t v)
    (hW : DataW.Whole enc Try.prog Try.f3.params.toList Rows.keySetsSpec.vars false W args.toList ds gs before) (hk : Rows.uptoSmall H (ds ++ gs) = true) :
    Calls Try.prog 3 args W fun e W' => ∃ v, e = .returned v ∧ Rows.keySetsSpec.post enc Try.prog Try.f3 false true false false W args v W' := by
  have hW' := hW
  obtain ⟨p, q, hA0, hV, rfl, hfz, hnd⟩ := hW
  have hA : DataW.TrodAll enc Try.prog W 0 (fun _ => true) true Try.f3.params.toList args.toList ds p := hA0
  rw [Try.params3] at hA hval
  obtain ⟨v0, vs0, d0, ds0, p0, q0, hargs, rfl, rfl, h0, r0⟩ := trodAll_cons hA
  obtain ⟨rfl, rfl, rfl⟩ := trodAll_nil r0
  obtain rfl : args = #[v0] := by cases args; simp_all
  obtain ⟨rfl, rfl⟩ := trodVars_none hV
  have k0 := h0
  have lt0 : ∀ x ∈ p0, x.block < W.heap.size := by obtain ⟨m, hm⟩ := k0; exact DataW.trod_lt m _ _ _ hm
  obtain ⟨fuel0, hf0⟩ := h0
  obtain ⟨aa, n, c, rfl⟩ := okWide_slice Try.underlying22 (hval 0 22 v0 rfl rfl)
  obtain ⟨SC, hS, hIn, hbk⟩ := open_sks (v := .slice aa n c) hf0
  have hkb := small_leA hk
  have hb : Rows.uptoBulk d0 ≤ 1048576 := by
    simp only [List.append_nil, Rows.uptoBulkAll] at hkb
    omega
  have hlen : SC.length ≤ 1048576 := by omega
  have hK : (keysOf SC).length ≤ 2199023255488 := by
    have h1 := keysOf_len 1048576 SC (fun s hs => by have := (hIn s hs).kn; have := (hIn s hs).le; omega)
    have h2 : SC.length * (1048576 + 1) ≤ 1048576 * (1048576 + 1) := Nat.mul_le_mul_right _ hlen
    omega
  have hOk : ∀ s ∈ SC, SkOk (keysOf SC) W W.heap.size s := fun s hs => ⟨(hIn s hs).k32, (hIn s hs).kn, by have := (hIn s hs).le; omega, (hIn s hs).pl, fun W2 hb2 => (hIn s hs).row.below hb2, List.mem_flatMap.2 ⟨s, hs, List.mem_cons_self ..⟩, fun x hx => List.mem_flatMap.2 ⟨s, hs, List.mem_cons_of_mem _ hx⟩⟩
  clear hA0
  refine (sets_law W _ SC (keysOf SC) hS hOk hlen hK).mono fun e W' ⟨he, bel⟩ => ?_
  subst he
  exact ⟨_, rfl, _, _, _, [], _, [], hW', trodAll_mk1 (shut_bool Try.underlying4 _), (trodAll_cons_mk (Below.trod laidOutA (by kernel_rfl) (of_decide_eq_true (by kernel_rfl)) k0 bel lt0) trodAll_mk0), rfl, bel.frame _, fun h => by cases h⟩

set_option maxRecDepth 100000 in
theorem keySets_lifted (os : Os) (started : os.Started) (H : Type) (enc : TypeId × Value → H) (F : Stop.Interp) :
    ReturnsInHanded {} Try.checked os 3 .any ((Rows.OpenSpec.upto Rows.keySetsSpec).pre6 enc Try.prog Try.f3 Rows.keySetsUptoRow.domain false) (((Rows.OpenSpec.upto Rows.keySetsSpec).at F).post enc Try.prog Try.f3 false true false false) := by
  refine returnsInHanded_of_cond (C := Try.checked) (s := Rows.OpenSpec.upto Rows.keySetsSpec) (k := Rows.uptoSmall) rfl ownA started (by kernel_rfl) Try.func3
    (OpenSpec.witness (enc := enc) (C := Try.checked) (s := Rows.OpenSpec.upto Rows.keySetsSpec) (k := Rows.uptoSmall) rfl false ⟨#[], #[.slice none 0 0], []⟩ 8 (by kernel_rfl) (by kernel_rfl) (by kernel_rfl)
      (x := ([.nil], [], [])) (by kernel_rfl) rfl (by kernel_rfl)) ?_
  intro W base args ds gs before hval hW _ hk _
  exact contractX H enc W base args ds gs before hval hW hk

theorem keySetsUpto_holds : Rows.KeySetsUptoSaid :=
  OpenClaim.holds_of_cond 3 Try.f3 rfl rfl rfl rfl rfl rfl rfl ⟨rfl, rfl, rfl, rfl, rfl⟩ rfl rfl rfl rfl rfl (by kernel_rfl) Try.func3 (by kernel_rfl)
    (of_decide_eq_true (by kernel_rfl)) (by unfold Func.isWrapper; first | (rw [if_pos (by decide +kernel)]; kernel_rfl) | (rw [if_neg (by decide +kernel)]; exact ⟨rfl, rfl⟩))
    (fun os started H enc _ F => keySets_lifted os started H enc F)
#print axioms keySetsUpto_holds
end Go.Proofs.Ytnloglecfbhpcaa
