/- A rank as mathematics: entries by score and name, put in, taken out, found, cut. -/
import Derived.Test.YtighoelipihifabGreatDoorMapMath
namespace Go.Proofs.YtighoelipihifabGreatDoor.RankMath
open Go.Proofs.YtighoelipihifabGreatDoor.MapMath
set_option linter.unusedVariables false

abbrev Ent := Bs × Int
abbrev EL := List Ent
def ltE (a b : Ent) : Prop := a.2 < b.2 ∨ (a.2 = b.2 ∧ a.1 < b.1)
instance (a b : Ent) : Decidable (ltE a b) := inferInstanceAs (Decidable (_ ∨ _))
def ltb (a b : Ent) : Bool := decide (ltE a b)
theorem ltE_irr (a : Ent) : ¬ ltE a a := fun h => by
  rcases h with h | ⟨_, h⟩
  · omega
  · exact List.lt_irrefl _ h
theorem ltE_trans {a b c : Ent} (h : ltE a b) (k : ltE b c) : ltE a c := by
  unfold ltE at *
  rcases h with h | ⟨h1, h2⟩
  · rcases k with k | ⟨k1, k2⟩
    · exact Or.inl (by omega)
    · exact Or.inl (by omega)
  · rcases k with k | ⟨k1, k2⟩
    · exact Or.inl (by omega)
    · exact Or.inr ⟨by omega, List.lt_trans h2 k2⟩
theorem ltE_tot (a b : Ent) : ltE a b ∨ a = b ∨ ltE b a := by
  unfold ltE
  rcases Int.lt_trichotomy a.2 b.2 with h | h | h
  · exact Or.inl (Or.inl h)
  · rcases lt_tot a.1 b.1 with k | k | k
    · exact Or.inl (Or.inr ⟨h, k⟩)
    · exact Or.inr (Or.inl (Prod.ext k h))
    · exact Or.inr (Or.inr (Or.inr ⟨h.symm, k⟩))
  · exact Or.inr (Or.inr (Or.inl h))
theorem ltE_asy {a b : Ent} (h : ltE a b) : ¬ ltE b a := fun k => ltE_irr a (ltE_trans h k)
theorem ltb_t {a b : Ent} : ltb a b = true ↔ ltE a b := by unfold ltb; simp
theorem ltb_f {a b : Ent} : ltb a b = false ↔ ¬ ltE a b := by unfold ltb; simp
def Srt (l : EL) : Prop := l.Pairwise ltE
theorem srt_ext : ∀ {a b : EL}, Srt a → Srt b → (∀ x, x ∈ a ↔ x ∈ b) → a = b
  | [], [], _, _, _ => rfl
  | [], y :: s, _, _, h => by have := (h y).2 List.mem_cons_self; cases this
  | x :: r, [], _, _, h => by have := (h x).1 List.mem_cons_self; cases this
  | x :: r, y :: s, ha, hb, h => by
    have ha' := List.pairwise_cons.1 ha
    have hb' := List.pairwise_cons.1 hb
    have e : x = y := by
      rcases List.mem_cons.1 ((h x).1 List.mem_cons_self) with h1 | h1
      · exact h1
      · rcases List.mem_cons.1 ((h y).2 List.mem_cons_self) with h2 | h2
        · exact h2.symm
        · exact absurd (ha'.1 y h2) (ltE_asy (hb'.1 x h1))
    subst e
    rw [srt_ext ha'.2 hb'.2 (fun z => ?_)]
    constructor
    · intro hz
      rcases List.mem_cons.1 ((h z).1 (List.mem_cons_of_mem _ hz)) with q | q
      · exact absurd (q ▸ ha'.1 z hz) (ltE_irr _)
      · exact q
    · intro hz
      rcases List.mem_cons.1 ((h z).2 (List.mem_cons_of_mem _ hz)) with q | q
      · exact absurd (q ▸ hb'.1 z hz) (ltE_irr _)
      · exact q
def put (e : Ent) (l : EL) : EL := l.filter (fun y => ltb y e) ++ e :: l.filter (fun y => !ltb y e)
def rmv (e : Ent) (l : EL) : EL := l.filter (fun y => !(y == e))
theorem put_mem {e x : Ent} {l : EL} : x ∈ put e l ↔ x = e ∨ x ∈ l := by
  unfold put
  rw [List.mem_append, List.mem_cons, List.mem_filter, List.mem_filter]
  cases ltb x e <;> simp <;> exact or_comm
theorem put_perm (e : Ent) (l : EL) : (put e l).Perm (e :: l) := by
  unfold put
  refine List.perm_middle.trans (List.Perm.cons _ ?_)
  exact List.filter_append_perm (fun y => ltb y e) l
theorem put_len (e : Ent) (l : EL) : (put e l).length = l.length + 1 := by rw [(put_perm e l).length_eq]; rfl
theorem put_srt {e : Ent} {l : EL} (h : Srt l) (he : e ∉ l) : Srt (put e l) := by
  unfold put Srt
  refine List.pairwise_append.2 ⟨List.Pairwise.sublist List.filter_sublist h, List.pairwise_cons.2 ⟨fun y hy => ?_, List.Pairwise.sublist List.filter_sublist h⟩, fun x hx y hy => ?_⟩
  · obtain ⟨h1, h2⟩ := List.mem_filter.1 hy
    have h3 : ltb y e = false := by simpa using h2
    rcases ltE_tot e y with q | q | q
    · exact q
    · exact absurd (q ▸ h1) he
    · exact absurd q (ltb_f.1 h3)
  · obtain ⟨h1, h2⟩ := List.mem_filter.1 hx
    have hxe := ltb_t.1 h2
    rcases List.mem_cons.1 hy with rfl | hy
    · exact hxe
    · obtain ⟨h3, h4⟩ := List.mem_filter.1 hy
      have h5 : ltb y e = false := by simpa using h4
      rcases ltE_tot e y with q | q | q
      · exact ltE_trans hxe q
      · rw [← q]; exact hxe
      · exact absurd q (ltb_f.1 h5)
theorem srt_parts {L R : EL} {x : Ent} (h : Srt (L ++ x :: R)) : Srt L ∧ Srt R ∧ (∀ y ∈ L, ltE y x) ∧ (∀ y ∈ R, ltE x y) ∧ ∀ y ∈ L, ∀ z ∈ R, ltE y z := by
  obtain ⟨h1, h2, h3⟩ := List.pairwise_append.1 h
  obtain ⟨h4, h5⟩ := List.pairwise_cons.1 h2
  exact ⟨h1, h5, fun y hy => h3 y hy x List.mem_cons_self, h4, fun y hy z hz => h3 y hy z (List.mem_cons_of_mem _ hz)⟩
theorem flt_all {p : Ent → Bool} {l : EL} (h : ∀ y ∈ l, p y = true) : l.filter p = l := List.filter_eq_self.2 h
theorem flt_no {p : Ent → Bool} {l : EL} (h : ∀ y ∈ l, p y = false) : l.filter p = [] := List.filter_eq_nil_iff.2 fun y hy => by simp [h y hy]
theorem put_left {L R : EL} {x e : Ent} (h : Srt (L ++ x :: R)) (he : ltE e x) : put e (L ++ x :: R) = put e L ++ x :: R := by
  obtain ⟨_, _, _, h4, _⟩ := srt_parts h
  have fx : ltb x e = false := ltb_f.2 (ltE_asy he)
  have fR : ∀ y ∈ R, ltb y e = false := fun y hy => ltb_f.2 (ltE_asy (ltE_trans he (h4 y hy)))
  unfold put
  rw [List.filter_append, List.filter_append, List.filter_cons, List.filter_cons, fx, flt_no fR, flt_all (l := R) (fun y hy => by rw [fR y hy]; rfl)]
  simp
theorem put_right {L R : EL} {x e : Ent} (h : Srt (L ++ x :: R)) (he : ltE x e) : put e (L ++ x :: R) = L ++ x :: put e R := by
  obtain ⟨_, _, h3, _, _⟩ := srt_parts h
  have fx : ltb x e = true := ltb_t.2 he
  have fL : ∀ y ∈ L, ltb y e = true := fun y hy => ltb_t.2 (ltE_trans (h3 y hy) he)
  unfold put
  rw [List.filter_append, List.filter_append, List.filter_cons, List.filter_cons, fx, flt_all fL, flt_no (l := L) (fun y hy => by rw [fL y hy]; rfl)]
  simp
theorem rmv_mem {e x : Ent} {l : EL} : x ∈ rmv e l ↔ x ∈ l ∧ x ≠ e := by
  unfold rmv; rw [List.mem_filter]; simp
theorem rmv_same {e : Ent} {l : EL} (h : e ∉ l) : rmv e l = l := flt_all fun y hy => by
  simp; rintro rfl; exact h hy
theorem rmv_srt {e : Ent} {l : EL} (h : Srt l) : Srt (rmv e l) := List.Pairwise.sublist List.filter_sublist h
theorem rmv_mid {L R : EL} {e : Ent} (h : Srt (L ++ e :: R)) : rmv e (L ++ e :: R) = L ++ R := by
  obtain ⟨_, _, h3, h4, _⟩ := srt_parts h
  have a : rmv e L = L := rmv_same fun hm => ltE_irr _ (h3 e hm)
  have b : rmv e R = R := rmv_same fun hm => ltE_irr _ (h4 e hm)
  unfold rmv at *
  rw [List.filter_append, List.filter_cons, a, b]
  simp
theorem rmv_left {L R : EL} {x e : Ent} (h : Srt (L ++ x :: R)) (he : ltE e x) : rmv e (L ++ x :: R) = rmv e L ++ x :: R := by
  obtain ⟨_, _, _, h4, _⟩ := srt_parts h
  have b : rmv e R = R := rmv_same fun hm => ltE_asy he (h4 e hm)
  have c : (x == e) = false := by simp; rintro rfl; exact ltE_irr _ he
  unfold rmv at *
  rw [List.filter_append, List.filter_cons, b, c]
  simp
theorem rmv_right {L R : EL} {x e : Ent} (h : Srt (L ++ x :: R)) (he : ltE x e) : rmv e (L ++ x :: R) = L ++ x :: rmv e R := by
  obtain ⟨_, _, h3, _, _⟩ := srt_parts h
  have b : rmv e L = L := rmv_same fun hm => ltE_asy he (h3 e hm)
  have c : (x == e) = false := by simp; rintro rfl; exact ltE_irr _ he
  unfold rmv at *
  rw [List.filter_append, List.filter_cons, b, c]
  simp
/- names stand once -/
def Uq (l : EL) : Prop := (l.map Prod.fst).Nodup
theorem uq_at {l : EL} (h : Uq l) {a b : Ent} (ha : a ∈ l) (hb : b ∈ l) (e : a.1 = b.1) : a = b := by
  induction l with
  | nil => cases ha
  | cons x r ih =>
    unfold Uq at h
    rw [List.map_cons, List.nodup_cons] at h
    rcases List.mem_cons.1 ha with rfl | ha'
    · rcases List.mem_cons.1 hb with rfl | hb'
      · rfl
      · exact absurd (List.mem_map.2 ⟨b, hb', e.symm⟩) h.1
    · rcases List.mem_cons.1 hb with rfl | hb'
      · exact absurd (List.mem_map.2 ⟨a, ha', e⟩) h.1
      · exact ih h.2 ha' hb'
theorem uq_perm {a b : EL} (h : a.Perm b) (u : Uq a) : Uq b := (h.map Prod.fst).nodup_iff.1 u
theorem lkp_iff {l : EL} (u : Uq l) {k : Bs} {s : Int} : lkp l k = some s ↔ (k, s) ∈ l := by
  refine ⟨lkp_mem, fun h => ?_⟩
  induction l with
  | nil => cases h
  | cons a r ih =>
    have u' : Uq r := by unfold Uq at *; rw [List.map_cons, List.nodup_cons] at u; exact u.2
    rw [lkp_cons]
    by_cases hk : a.1 = k
    · rw [if_pos hk]
      have : (k, s) = a := uq_at u h List.mem_cons_self hk.symm
      rw [← this]
    · rw [if_neg hk]
      rcases List.mem_cons.1 h with e | h'
      · exact absurd (by rw [← e]) hk
      · exact ih u' h'
theorem lkp_perm {a b : EL} (h : a.Perm b) (u : Uq a) (k : Bs) : lkp a k = lkp b k := by
  have ub := uq_perm h u
  cases e : lkp a k with
  | some s => exact ((lkp_iff ub).2 (h.mem_iff.1 ((lkp_iff u).1 e))).symm
  | none =>
    cases e2 : lkp b k with
    | none => rfl
    | some s => rw [(lkp_iff u).2 (h.mem_iff.2 ((lkp_iff ub).1 e2))] at e; cases e
theorem lkp_none_iff {l : EL} {k : Bs} : lkp l k = none ↔ ∀ p ∈ l, p.1 ≠ k := by
  refine ⟨fun h p hp e => ?_, lkp_none⟩
  have : ok l k = true := ok_iff.2 ⟨p, hp, e⟩
  unfold ok at this
  rw [h] at this
  cases this
theorem ris_uq {l : EL} (h : Ris l) : Uq l := by
  unfold Uq
  rw [List.Nodup, List.pairwise_map]
  exact List.Pairwise.imp (fun h => lt_ne h) h
theorem wout_perm {a b : EL} (h : a.Perm b) (k : Bs) : (wout a k).Perm (wout b k) := h.filter _
theorem wout_uq {l : EL} (u : Uq l) (k : Bs) : Uq (wout l k) := List.Nodup.sublist (List.Sublist.map _ List.filter_sublist) u
theorem wout_srt {l : EL} (u : Srt l) (k : Bs) : Srt (wout l k) := List.Pairwise.sublist List.filter_sublist u
theorem wout_rmv {l : EL} (u : Uq l) {k : Bs} {s : Int} (h : lkp l k = some s) : rmv (k, s) l = wout l k := by
  have hm := (lkp_iff u).1 h
  unfold rmv wout
  refine List.filter_congr fun y hy => ?_
  congr 1
  rw [Bool.eq_iff_iff]
  simp only [beq_iff_eq]
  constructor
  · rintro rfl; rfl
  · intro e; exact uq_at u hy hm e
theorem ins_perm (x : Ent) : ∀ l : EL, (insL x l).Perm (x :: l)
  | [] => List.Perm.refl _
  | y :: r => by
    unfold insL
    split
    · exact List.Perm.refl _
    · exact (List.Perm.cons y (ins_perm x r)).trans (List.Perm.swap x y r)
theorem with_perm (l : EL) (k : Bs) (v : Int) : (withL l k v).Perm ((k, v) :: wout l k) := ins_perm _ _
/- set: the name with its score, in its place -/
def setE (l : EL) (k : Bs) (v : Int) : EL := put (k, v) (wout l k)
theorem wout_no_mem (l : EL) (k : Bs) (v : Int) : (k, v) ∉ wout l k := fun h => wout_none _ h rfl
theorem setE_srt {l : EL} (h : Srt l) (k : Bs) (v : Int) : Srt (setE l k v) := put_srt (wout_srt h k) (wout_no_mem l k v)
theorem setE_perm (l : EL) (k : Bs) (v : Int) : (setE l k v).Perm ((k, v) :: wout l k) := put_perm _ _
theorem setE_uq {l : EL} (u : Uq l) (k : Bs) (v : Int) : Uq (setE l k v) := by
  refine uq_perm (setE_perm l k v).symm ?_
  unfold Uq
  rw [List.map_cons, List.nodup_cons]
  refine ⟨fun h => ?_, wout_uq u k⟩
  obtain ⟨p, hp, e⟩ := List.mem_map.1 h
  exact wout_none p hp e
theorem setE_len (l : EL) (k : Bs) (v : Int) : (setE l k v).length ≤ l.length + 1 := by
  unfold setE; rw [put_len]; have := wout_len l k; omega
/- a predicate that holds of a beginning -/
def Dn (p : Ent → Bool) (l : EL) : Prop := l.Pairwise fun x y => p y = true → p x = true
theorem dn_take : ∀ {l : EL} {p : Ent → Bool}, Dn p l → l.filter p = l.take (l.countP p) ∧ l.filter (fun x => !p x) = l.drop (l.countP p)
  | [], p, _ => ⟨rfl, rfl⟩
  | a :: r, p, h => by
    obtain ⟨h1, h2⟩ := List.pairwise_cons.1 h
    obtain ⟨i1, i2⟩ := dn_take h2
    cases ha : p a with
    | true =>
      rw [List.filter_cons, List.filter_cons, List.countP_cons, ha]
      simp [i1, i2]
    | false =>
      have hr : ∀ y ∈ r, p y = false := fun y hy => by
        cases e : p y with
        | false => rfl
        | true => have := h1 y hy e; rw [ha] at this; cases this
      have c0 : r.countP p = 0 := List.countP_eq_zero.2 fun y hy => by simp [hr y hy]
      rw [List.filter_cons, List.filter_cons, List.countP_cons, ha, c0, flt_no hr, flt_all (p := fun x => !p x) (l := r) (fun y hy => by rw [hr y hy]; rfl)]
      simp
theorem srt_dn {l : EL} (h : Srt l) {p : Ent → Bool} (hp : ∀ x y, ltE x y → p y = true → p x = true) : Dn p l := List.Pairwise.imp (fun {a b} hab => hp a b hab) h
theorem put_eq {l : EL} (h : Srt l) (e : Ent) : put e l = l.take (l.countP fun y => ltb y e) ++ e :: l.drop (l.countP fun y => ltb y e) := by
  obtain ⟨h1, h2⟩ := dn_take (srt_dn h (p := fun y => ltb y e) (fun x y hxy hy => ltb_t.2 (ltE_trans hxy (ltb_t.1 hy))))
  unfold put
  rw [h1, h2]
theorem two_cut {l : EL} {A U : Ent → Bool} (hA : Dn (fun x => !A x) l) (hU : Dn U l) : l.filter (fun x => A x && U x) = (l.take (l.countP U)).drop (l.countP fun x => !A x) := by
  have e1 := (dn_take hU).1
  have e2 := (dn_take hA).2
  have e3 : l.filter (fun x => !!A x) = l.filter A := List.filter_congr fun x _ => by cases A x <;> rfl
  rw [e3] at e2
  have e4 : l.filter (fun x => A x && U x) = (l.filter A).filter U := by
    rw [List.filter_filter]
    exact List.filter_congr fun x _ => Bool.and_comm _ _
  have hd : Dn U (l.drop (l.countP fun x => !A x)) := List.Pairwise.sublist (List.drop_sublist _ _) hU
  rw [e4, e2, (dn_take hd).1, List.drop_take]
  congr 1
  have s := List.countP_append (p := U) (l₁ := l.take (l.countP fun x => !A x)) (l₂ := l.drop (l.countP fun x => !A x))
  rw [List.take_append_drop] at s
  have t : (l.take (l.countP fun x => !A x)).countP U = min (l.countP U) (l.countP fun x => !A x) := by
    have := congrArg List.length e1
    have u : (l.take (l.countP fun x => !A x)).countP U = ((l.take (l.countP fun x => !A x)).filter U).length := List.countP_eq_length_filter
    rw [u]
    have dt : Dn U (l.take (l.countP fun x => !A x)) := List.Pairwise.sublist (List.take_sublist _ _) hU
    rw [(dn_take dt).1, List.length_take]
    have v : (l.take (l.countP fun x => !A x)).countP U ≤ l.countP U := List.Sublist.countP_le (List.take_sublist _ _)
    have hl : (l.take (l.countP fun x => !A x)).length = l.countP fun x => !A x := by rw [List.length_take]; exact Nat.min_eq_left List.countP_le_length
    rw [hl]
    have w : min (l.countP U) (l.countP fun x => !A x) ≤ (l.take (l.countP fun x => !A x)).countP U := by
      have z : (l.take (min (l.countP U) (l.countP fun x => !A x))).countP U = min (l.countP U) (l.countP fun x => !A x) := by
        have hall : ∀ y ∈ l.take (min (l.countP U) (l.countP fun x => !A x)), U y = true := fun y hy => by
          have hy2 : y ∈ l.take (l.countP U) := (List.take_subset_take_left l (Nat.min_le_left _ _)) hy
          rw [← e1] at hy2
          exact (List.mem_filter.1 hy2).2
        rw [List.countP_eq_length.2 hall, List.length_take]
        have := List.countP_le_length (p := U) (l := l)
        omega
      rw [← z]
      exact List.Sublist.countP_le (by
        have := List.take_sublist (min (l.countP U) (l.countP fun x => !A x)) (l.take (l.countP fun x => !A x))
        rw [List.take_take, show min (min (l.countP U) (l.countP fun x => !A x)) (l.countP fun x => !A x) = min (l.countP U) (l.countP fun x => !A x) from by omega] at this
        exact this)
    omega
  omega
end Go.Proofs.YtighoelipihifabGreatDoor.RankMath
