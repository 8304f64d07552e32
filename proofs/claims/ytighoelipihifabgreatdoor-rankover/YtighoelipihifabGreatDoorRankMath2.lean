/- A rank as mathematics, on: the order of any list, places, pieces either way, intervals, what is popped. -/
import Derived.Test.YtighoelipihifabGreatDoorRankMath
namespace Go.Proofs.YtighoelipihifabGreatDoor.RankMath2
open Go.Proofs.YtighoelipihifabGreatDoor.MapMath
open Go.Proofs.YtighoelipihifabGreatDoor.RankMath
set_option linter.unusedVariables false

/- the order of any list -/
def srtL (l : EL) : EL := l.foldl (fun acc e => put e acc) []
theorem fold_mem (x : Ent) : ∀ (l acc : EL), x ∈ l.foldl (fun acc e => put e acc) acc ↔ x ∈ acc ∨ x ∈ l
  | [], acc => by simp
  | a :: r, acc => by
    rw [List.foldl_cons, fold_mem x r, put_mem, List.mem_cons]
    constructor
    · rintro ((h | h) | h)
      · exact Or.inr (Or.inl h)
      · exact Or.inl h
      · exact Or.inr (Or.inr h)
    · rintro (h | h | h)
      · exact Or.inl (Or.inr h)
      · exact Or.inl (Or.inl h)
      · exact Or.inr h
theorem fold_perm : ∀ (l acc : EL), (l.foldl (fun acc e => put e acc) acc).Perm (l ++ acc)
  | [], acc => List.Perm.refl _
  | a :: r, acc => by
    rw [List.foldl_cons]
    refine (fold_perm r _).trans ?_
    refine (List.Perm.append_left r (put_perm a acc)).trans ?_
    exact List.perm_middle
theorem fold_srt : ∀ (l acc : EL), Srt acc → (l ++ acc).Nodup → Srt (l.foldl (fun acc e => put e acc) acc)
  | [], acc, h, _ => h
  | a :: r, acc, h, hn => by
    rw [List.foldl_cons]
    rw [List.cons_append, List.nodup_cons] at hn
    refine fold_srt r _ (put_srt h fun hm => hn.1 (List.mem_append.2 (Or.inr hm))) ?_
    refine ((List.Perm.append_left r (put_perm a acc)).trans List.perm_middle).nodup_iff.2 ?_
    exact List.nodup_cons.2 hn
theorem srtL_perm (l : EL) : (srtL l).Perm l := by have := fold_perm l []; rw [List.append_nil] at this; exact this
theorem uq_nodup {l : EL} (u : Uq l) : l.Nodup := by
  unfold Uq at u
  rw [List.Nodup, List.pairwise_map] at u
  exact List.Pairwise.imp (fun h e => h (by rw [e])) u
theorem srtL_srt {l : EL} (u : Uq l) : Srt (srtL l) := fold_srt l [] List.Pairwise.nil (by rw [List.append_nil]; exact uq_nodup u)
theorem srtL_uq {l : EL} (u : Uq l) : Uq (srtL l) := uq_perm (srtL_perm l).symm u
theorem srtL_len (l : EL) : (srtL l).length = l.length := (srtL_perm l).length_eq
theorem srtL_is {l r : EL} (hp : r.Perm l) (hs : Srt r) (u : Uq l) : r = srtL l := srt_ext hs (srtL_srt u) fun x => by rw [hp.mem_iff, (srtL_perm l).mem_iff]
theorem srtL_self {l : EL} (hs : Srt l) (u : Uq l) : srtL l = l := (srtL_is (List.Perm.refl l) hs u).symm
/- places -/
def plc (l : EL) (k : Bs) : Nat := l.findIdx fun p => p.1 == k
theorem plc_le (l : EL) (k : Bs) : plc l k ≤ l.length := List.findIdx_le_length
theorem plc_lt {l : EL} {k : Bs} (h : ok l k = true) : plc l k < l.length := by
  obtain ⟨p, hp, e⟩ := ok_iff.1 h
  exact List.findIdx_lt_length_of_exists ⟨p, hp, by simpa using e⟩
theorem plc_no {l : EL} {k : Bs} (h : ok l k = false) : plc l k = l.length := by
  unfold plc
  refine List.findIdx_eq_length.2 fun p hp => ?_
  cases e : (p.1 == k) with
  | false => rfl
  | true => rw [ok_iff.2 ⟨p, hp, by simpa using e⟩] at h; cases h
theorem plc_at {L R : EL} {e : Ent} (u : Uq (L ++ e :: R)) : plc (L ++ e :: R) e.1 = L.length := by
  unfold plc
  have hL : ∀ p ∈ L, (p.1 == e.1) = false := fun p hp => by
    cases h : (p.1 == e.1) with
    | false => rfl
    | true =>
      exfalso
      unfold Uq at u
      rw [List.map_append, List.nodup_append] at u
      exact u.2.2 p.1 (List.mem_map.2 ⟨p, hp, rfl⟩) e.1 (List.mem_map.2 ⟨e, List.mem_cons_self, rfl⟩) (by simpa using h)
  have h1 : L.findIdx (fun p => p.1 == e.1) = L.length := List.findIdx_eq_length.2 hL
  rw [List.findIdx_append, h1, if_neg (Nat.lt_irrefl _), List.findIdx_cons]
  simp
theorem split_at {l : EL} {e : Ent} (h : e ∈ l) : ∃ L R, l = L ++ e :: R := List.append_of_mem h
theorem plc_cnt {l : EL} (hs : Srt l) (u : Uq l) {k : Bs} {s : Int} (h : lkp l k = some s) : (l.countP fun y => ltb y (k, s)) = plc l k := by
  obtain ⟨L, R, rfl⟩ := split_at ((lkp_iff u).1 h)
  rw [show plc (L ++ (k, s) :: R) k = L.length from plc_at (e := (k, s)) u]
  obtain ⟨_, _, h3, h4, _⟩ := srt_parts hs
  rw [List.countP_append, List.countP_cons, List.countP_eq_length.2 (fun y hy => ltb_t.2 (h3 y hy)), List.countP_eq_zero.2 (fun y hy => by rw [ltb_f.2 (ltE_asy (h4 y hy))]; simp), ltb_f.2 (ltE_irr _)]
  simp
theorem uq_rev {l : EL} (u : Uq l) : Uq l.reverse := uq_perm (List.reverse_perm l).symm u
theorem ok_perm {a b : EL} (h : a.Perm b) (k : Bs) : ok a k = ok b k := by
  rw [Bool.eq_iff_iff, ok_iff, ok_iff]
  constructor
  · rintro ⟨p, hp, e⟩; exact ⟨p, h.mem_iff.1 hp, e⟩
  · rintro ⟨p, hp, e⟩; exact ⟨p, h.mem_iff.2 hp, e⟩
theorem ok_rev (l : EL) (k : Bs) : ok l.reverse k = ok l k := ok_perm (List.reverse_perm l) k
theorem plc_rev {l : EL} (u : Uq l) {k : Bs} (h : ok l k = true) : plc l.reverse k + 1 + plc l k = l.length := by
  obtain ⟨p, hp, rfl⟩ := ok_iff.1 h
  obtain ⟨L, R, rfl⟩ := split_at hp
  rw [plc_at u]
  have e : (L ++ p :: R).reverse = R.reverse ++ p :: L.reverse := by simp
  have u2 := uq_rev u
  rw [e] at u2 ⊢
  rw [plc_at u2]
  simp
  omega
theorem plc_get {l : EL} (u : Uq l) {i : Nat} (h : i < l.length) : plc l (l[i]'h).1 = i := by
  have e : l = l.take i ++ l[i] :: l.drop (i + 1) := by rw [← List.drop_eq_getElem_cons h, List.take_append_drop]
  have u2 := u
  rw [e] at u2
  have := plc_at u2
  rw [← e, List.length_take] at this
  omega
theorem name_plc {l : EL} {k : Bs} (h : ok l k = true) : (l[plc l k]'(plc_lt h)).1 = k := by
  have := List.findIdx_getElem (p := fun p : Ent => p.1 == k) (xs := l) (w := plc_lt h)
  exact eq_of_beq this
theorem lkp_plc {l : EL} (u : Uq l) {k : Bs} (h : ok l k = true) : lkp l k = some (l[plc l k]'(plc_lt h)).2 := by
  refine (lkp_iff u).2 ?_
  have e : (k, (l[plc l k]'(plc_lt h)).2) = l[plc l k]'(plc_lt h) := Prod.ext (name_plc h).symm rfl
  rw [e]
  exact List.getElem_mem _
theorem wout_plc {l : EL} (u : Uq l) {k : Bs} (h : ok l k = true) : wout l k = l.take (plc l k) ++ l.drop (plc l k + 1) := by
  obtain ⟨p, hp, rfl⟩ := ok_iff.1 h
  obtain ⟨L, R, rfl⟩ := split_at hp
  rw [plc_at u]
  have a : ∀ q ∈ L ++ R, q.1 ≠ p.1 := fun q hq e => by
    unfold Uq at u
    have u2 : (p.1 :: (L ++ R).map Prod.fst).Nodup := by
      refine List.Perm.nodup_iff ?_ |>.1 u
      rw [List.map_append, List.map_cons, List.map_append]
      exact List.perm_middle
    exact (List.nodup_cons.1 u2).1 (List.mem_map.2 ⟨q, hq, e⟩)
  have b : wout (L ++ p :: R) p.1 = L ++ R := by
    have c : wout (L ++ R) p.1 = L ++ R := wout_same a
    unfold wout at *
    rw [List.filter_append, List.filter_cons]
    rw [List.filter_append] at c
    simpa using c
  rw [b]
  simp
/- either way -/
def way (l : EL) (r : Bool) : EL := if r then l.reverse else l
theorem way_len (l : EL) (r : Bool) : (way l r).length = l.length := by cases r <;> simp [way]
theorem way_perm (l : EL) (r : Bool) : (way l r).Perm l := by
  cases r
  · exact List.Perm.refl _
  · exact List.reverse_perm l
def runS (l : EL) (f n : Nat) (r : Bool) : EL := ((way l r).drop f).take n
theorem run_rev {l : EL} {f n : Nat} (h : f + n ≤ l.length) : ((l.drop (l.length - f - n)).take n).reverse = runS l f n true := by
  unfold runS way
  rw [if_pos rfl]
  have e1 : ((l.drop (l.length - f - n)).take n).length = n := by rw [List.length_take, List.length_drop]; omega
  refine List.ext_getElem (by rw [List.length_reverse, e1, List.length_take, List.length_drop, List.length_reverse]; omega) fun i h1 h2 => ?_
  rw [List.length_reverse, e1] at h1
  rw [List.getElem_reverse, List.getElem_take, List.getElem_drop, List.getElem_take, List.getElem_drop, List.getElem_reverse]
  congr 1
  omega
def clampS (x : Int) (n : Nat) : Nat := min x.toNat n
def cutS (l : EL) (skip most : Int) : EL := if 0 ≤ most then (l.drop (clampS skip l.length)).take most.toNat else l.drop (clampS skip l.length)
end Go.Proofs.YtighoelipihifabGreatDoor.RankMath2
