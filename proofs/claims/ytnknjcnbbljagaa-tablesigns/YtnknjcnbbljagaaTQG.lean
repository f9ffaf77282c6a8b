/- A table whose keys are put through a function, pure: all is put through it. -/
import Derived.Test.YtnknjcnbbljagaaTA0
namespace Go.Proofs.Ytnknjcnbbljagaa
set_option linter.unusedVariables false
set_option linter.unusedSimpArgs false
namespace MG
section
variable {K J V : Type}
def imS (f : K → J) : Slt K V → Slt J V
  | .emp => .emp
  | .ful k v => .ful (f k) v
  | .tmb => .tmb
def imT (f : K → J) (T : Tb K V) : Tb J V := ⟨T.y.map (imS f), T.e.map (imS f), T.m⟩
variable {f : K → J}
theorem sat_im (L : List (Slt K V)) (p : Nat) : sat (L.map (imS f)) p = imS f (sat L p) := by
  simp only [sat, List.getD_eq_getElem?_getD, List.getElem?_map]
  cases L[p]? <;> rfl
theorem st_im (s : Slt K V) : (imS f s).st = s.st := by cases s <;> rfl
theorem cnt_im (L : List (Slt K V)) (q : Nat) : cnt (L.map (imS f)) q = cnt L q := by
  unfold cnt
  rw [List.countP_map]
  congr 1
  funext s
  simp [st_im]
theorem lyg_im (L : List (Slt K V)) (h : Nat) (k : K) (v : V) (n i : Nat) : lyg (L.map (imS f)) h (f k) v n i = (lyg L h k v n i).map (imS f) := by
  induction n generalizing i with
  | zero => rfl
  | succ n ih =>
    have hl : (L.map (imS f)).length = L.length := List.length_map ..
    cases hs : sat L ((h + i) % L.length) with
    | emp => rw [lyg_emp (by rw [hl, sat_im, hs]; rfl), lyg_emp hs, hl, List.map_set]; rfl
    | tmb => rw [lyg_tmb (by rw [hl, sat_im, hs]; rfl), lyg_tmb hs, hl, List.map_set]; rfl
    | ful k' v' => rw [lyg_ful (k' := f k') (v' := v') (by rw [hl, sat_im, hs]; rfl), lyg_ful hs, ih]
theorem lay_im (L : List (Slt K V)) (h : Nat) (k : K) (v : V) : lay (L.map (imS f)) h (f k) v = (lay L h k v).map (imS f) := by
  unfold lay
  rw [lyg_im, List.length_map]
theorem left_im (T : Tb K V) : (imT f T).left = T.left := by
  show (T.e.map (imS f)).length - T.m = _
  rw [List.length_map]; rfl
theorem len_im (T : Tb K V) : (imT f T).len = T.len := by
  show cnt (T.y.map (imS f)) 1 + cnt (T.e.map (imS f)) 1 = _
  rw [cnt_im, cnt_im]; rfl
theorem endT_im (T : Tb K V) : endT (imT f T) = imT f (endT T) := by
  unfold endT
  rw [left_im]
  split <;> rfl
theorem growT_im (T : Tb K V) : growT (imT f T) = imT f (growT T) := by
  unfold growT
  have e1 : cnt (imT f T).y 1 = cnt T.y 1 := cnt_im _ _
  have e2 : cnt (imT f T).y 2 = cnt T.y 2 := cnt_im _ _
  have e3 : (imT f T).y.length = T.y.length := List.length_map ..
  rw [left_im, e1, e2, e3, len_im]
  split
  · rfl
  · show _ = (⟨(List.replicate _ Slt.emp).map (imS f), T.y.map (imS f), T.m⟩ : Tb J V)
    rw [List.map_replicate]
    rfl
theorem valS_im (z : V) (s : Slt K V) : valS z (imS f s) = valS z s := by cases s <;> rfl
theorem valT_im (z : V) (T : Tb K V) (r : Option (Bool × Nat)) : valT z (imT f T) r = valT z T r := by
  rcases r with _ | ⟨_ | _, p⟩
  · rfl
  · show valS z (sat (T.y.map (imS f)) p) = valS z (sat T.y p)
    rw [sat_im, valS_im]
  · show valS z (sat (T.e.map (imS f)) p) = valS z (sat T.e p)
    rw [sat_im, valS_im]
theorem prs_im (L : List (Slt K V)) : prs (L.map (imS f)) = (prs L).map (fun x => (f x.1, x.2)) := by
  induction L with
  | nil => rfl
  | cons s L ih => cases s <;> simp [imS, prs, ih]
theorem prsT_im (T : Tb K V) : (imT f T).prs = T.prs.map (fun x => (f x.1, x.2)) := by
  show (prs (T.e.map (imS f))) ++ (prs (T.y.map (imS f))) = _
  rw [prs_im, prs_im, ← List.map_append]
  rfl
variable {eq : K → K → Bool} {eq' : J → J → Bool} {hs : K → Nat} {hs' : J → Nat}
theorem fnd_im (he : ∀ a b, eq' (f a) (f b) = eq a b) (L : List (Slt K V)) (h : Nat) (k : K) (n i : Nat) : fnd eq' (L.map (imS f)) h (f k) n i = fnd eq L h k n i := by
  induction n generalizing i with
  | zero => rfl
  | succ n ih =>
    have hl : (L.map (imS f)).length = L.length := List.length_map ..
    cases hs : sat L ((h + i) % L.length) with
    | emp => rw [fnd_emp (by rw [hl, sat_im, hs]; rfl), fnd_emp hs]
    | tmb => rw [fnd_tmb (by rw [hl, sat_im, hs]; rfl), fnd_tmb hs, ih]
    | ful k' v' =>
      have e : sat (L.map (imS f)) ((h + i) % (L.map (imS f)).length) = .ful (f k') v' := by rw [hl, sat_im, hs]; rfl
      cases hb : eq k' k with
      | true => rw [fnd_yes e ((he k' k).trans hb), fnd_yes hs hb, hl]
      | false => rw [fnd_no e ((he k' k).trans hb), fnd_no hs hb, ih]
theorem find_im (he : ∀ a b, eq' (f a) (f b) = eq a b) (L : List (Slt K V)) (h : Nat) (k : K) : find eq' (L.map (imS f)) h (f k) = find eq L h k := by
  unfold find
  rw [fnd_im he, List.length_map]
theorem mv1_im (hh : ∀ a, hs' (f a) = hs a) (T : Tb K V) : mv1 hs' (imT f T) = imT f (mv1 hs T) := by
  unfold mv1
  have e : sat (imT f T).e (imT f T).m = imS f (sat T.e T.m) := sat_im T.e T.m
  rw [e]
  cases sat T.e T.m with
  | emp => rfl
  | tmb => rfl
  | ful k v =>
    show (⟨lay (T.y.map (imS f)) (hs' (f k)) (f k) v, (T.e.map (imS f)).set T.m .tmb, T.m + 1⟩ : Tb J V) = ⟨(lay T.y (hs k) k v).map (imS f), (T.e.set T.m .tmb).map (imS f), T.m + 1⟩
    rw [hh, lay_im, List.map_set]
    rfl
theorem mvN_im (hh : ∀ a, hs' (f a) = hs a) (n : Nat) (T : Tb K V) : mvN hs' n (imT f T) = imT f (mvN hs n T) := by
  induction n with
  | zero => rfl
  | succ n ih => rw [mvN, mvN, ih, mv1_im hh]
theorem stepT_im (hh : ∀ a, hs' (f a) = hs a) (T : Tb K V) : stepT hs' (imT f T) = imT f (stepT hs T) := by
  unfold stepT
  rw [left_im, mvN_im hh, endT_im]
  split <;> rfl
theorem seek_im (he : ∀ a b, eq' (f a) (f b) = eq a b) (hh : ∀ a, hs' (f a) = hs a) (T : Tb K V) (k : K) : seek eq' hs' (imT f T) (f k) = seek eq hs T k := by
  unfold seek
  have e1 : find eq' (imT f T).y (hs' (f k)) (f k) = find eq T.y (hs k) k := by rw [hh]; exact find_im he _ _ _
  have e2 : find eq' (imT f T).e (hs' (f k)) (f k) = find eq T.e (hs k) k := by rw [hh]; exact find_im he _ _ _
  rw [e1, e2]
theorem putG_im (he : ∀ a b, eq' (f a) (f b) = eq a b) (hh : ∀ a, hs' (f a) = hs a) (T : Tb K V) (k : K) (v : V) : putG eq' hs' (imT f T) (f k) v = imT f (putG eq hs T k v) := by
  unfold putG
  rw [seek_im he hh]
  rcases (seek eq hs T k).1 with _ | ⟨_ | _, p⟩
  · show growT (⟨lay (T.y.map (imS f)) (hs' (f k)) (f k) v, T.e.map (imS f), T.m⟩ : Tb J V) = _
    rw [hh, lay_im]
    exact growT_im ⟨lay T.y (hs k) k v, T.e, T.m⟩
  · show (⟨(T.y.map (imS f)).set p (repS v (sat (T.y.map (imS f)) p)), T.e.map (imS f), T.m⟩ : Tb J V) = ⟨(T.y.set p (repS v (sat T.y p))).map (imS f), T.e.map (imS f), T.m⟩
    rw [List.map_set, sat_im]
    cases sat T.y p <;> rfl
  · show (⟨lay (T.y.map (imS f)) (hs' (f k)) (f k) v, (T.e.map (imS f)).set p .tmb, T.m⟩ : Tb J V) = ⟨(lay T.y (hs k) k v).map (imS f), (T.e.set p .tmb).map (imS f), T.m⟩
    rw [hh, lay_im, List.map_set]
    rfl
theorem putT_im (he : ∀ a b, eq' (f a) (f b) = eq a b) (hh : ∀ a, hs' (f a) = hs a) (T : Tb K V) (k : K) (v : V) : putT eq' hs' (imT f T) (f k) v = imT f (putT eq hs T k v) := by
  unfold putT
  rw [stepT_im hh, putG_im he hh]
theorem delT_im (he : ∀ a b, eq' (f a) (f b) = eq a b) (hh : ∀ a, hs' (f a) = hs a) (T : Tb K V) (k : K) : delT eq' hs' (imT f T) (f k) = imT f (delT eq hs T k) := by
  unfold delT delG
  rw [stepT_im hh, seek_im he hh]
  rcases (seek eq hs (stepT hs T) k).1 with _ | ⟨_ | _, p⟩
  · rfl
  · show (⟨((stepT hs T).y.map (imS f)).set p .tmb, _, _⟩ : Tb J V) = ⟨((stepT hs T).y.set p .tmb).map (imS f), _, _⟩
    rw [List.map_set]
    rfl
  · show (⟨_, ((stepT hs T).e.map (imS f)).set p .tmb, _⟩ : Tb J V) = ⟨_, ((stepT hs T).e.set p .tmb).map (imS f), _⟩
    rw [List.map_set]
    rfl
end
section
variable {K V : Type} {D : K → Prop} {eq eq' : K → K → Bool} {hs : K → Nat}
/-- All keys of a row, of a table, lie in a domain. -/
def RD (D : K → Prop) (L : List (Slt K V)) : Prop := ∀ k v, Slt.ful k v ∈ L → D k
def TD (D : K → Prop) (T : Tb K V) : Prop := RD D T.y ∧ RD D T.e
theorem RD.sat {L : List (Slt K V)} (h : RD D L) {p : Nat} {k : K} {v : V} (hs : sat L p = .ful k v) : D k := by
  refine h k v ?_
  unfold Go.Proofs.Ytnknjcnbbljagaa.sat at hs
  rw [List.getD_eq_getElem?_getD] at hs
  cases g : L[p]? with
  | none => rw [g] at hs; cases hs
  | some s =>
    rw [g] at hs
    have : s = .ful k v := hs
    rw [← this]
    exact List.mem_of_getElem? g
theorem RD.set {L : List (Slt K V)} (h : RD D L) (p : Nat) (s : Slt K V) (hk : ∀ k v, s = .ful k v → D k) : RD D (L.set p s) := fun k v hm => by
  rcases List.mem_or_eq_of_mem_set hm with hm | hm
  · exact h k v hm
  · exact hk k v hm.symm
theorem RD.lyg {L : List (Slt K V)} (h : RD D L) (q : Nat) (k : K) (v : V) (hk : D k) : ∀ n i, RD D (lyg L q k v n i) := by
  intro n
  induction n with
  | zero => intro i; exact h
  | succ n ih =>
    intro i
    cases hs : Go.Proofs.Ytnknjcnbbljagaa.sat L ((q + i) % L.length) with
    | emp => rw [lyg_emp hs]; exact h.set _ _ (fun a b e => by cases e; exact hk)
    | tmb => rw [lyg_tmb hs]; exact h.set _ _ (fun a b e => by cases e; exact hk)
    | ful k' v' => rw [lyg_ful hs]; exact ih _
theorem TD.mv1 {T : Tb K V} (h : TD D T) : TD D (mv1 hs T) := by
  unfold Go.Proofs.Ytnknjcnbbljagaa.mv1
  cases g : Go.Proofs.Ytnknjcnbbljagaa.sat T.e T.m with
  | emp => exact h
  | tmb => exact h
  | ful k v => exact ⟨h.1.lyg _ _ _ (h.2.sat g) _ _, h.2.set _ _ (fun a b e => by cases e)⟩
theorem TD.mvN {T : Tb K V} (h : TD D T) : ∀ n, TD D (mvN hs n T)
  | 0 => h
  | n + 1 => (TD.mvN h n).mv1
theorem TD.step {T : Tb K V} (h : TD D T) : TD D (stepT hs T) := by
  unfold stepT endT
  split
  · exact h
  · split
    · exact ⟨(h.mvN 8).1, fun k v hm => by cases hm⟩
    · exact h.mvN 8
theorem fnd_on (he : ∀ a b, D a → D b → eq a b = eq' a b) {L : List (Slt K V)} (h : RD D L) (q : Nat) {k : K} (hk : D k) : ∀ n i, fnd eq L q k n i = fnd eq' L q k n i := by
  intro n
  induction n with
  | zero => intro i; rfl
  | succ n ih =>
    intro i
    cases hs : Go.Proofs.Ytnknjcnbbljagaa.sat L ((q + i) % L.length) with
    | emp => rw [fnd_emp hs, fnd_emp hs]
    | tmb => rw [fnd_tmb hs, fnd_tmb hs, ih]
    | ful k' v' =>
      have e := he k' k (h.sat hs) hk
      cases hb : eq k' k with
      | true => rw [fnd_yes hs hb, fnd_yes hs (e.symm.trans hb)]
      | false => rw [fnd_no hs hb, fnd_no hs (e.symm.trans hb), ih]
theorem seek_on (he : ∀ a b, D a → D b → eq a b = eq' a b) {T : Tb K V} (h : TD D T) {k : K} (hk : D k) : seek eq hs T k = seek eq' hs T k := by
  unfold seek find
  rw [fnd_on he h.1 _ hk, fnd_on he h.2 _ hk]
theorem putT_on (he : ∀ a b, D a → D b → eq a b = eq' a b) {T : Tb K V} (h : TD D T) {k : K} (hk : D k) (v : V) : putT eq hs T k v = putT eq' hs T k v := by
  unfold putT putG
  rw [seek_on he h.step hk]
theorem delT_on (he : ∀ a b, D a → D b → eq a b = eq' a b) {T : Tb K V} (h : TD D T) {k : K} (hk : D k) : delT eq hs T k = delT eq' hs T k := by
  unfold delT delG
  rw [seek_on he h.step hk]
end
end MG
end Go.Proofs.Ytnknjcnbbljagaa
