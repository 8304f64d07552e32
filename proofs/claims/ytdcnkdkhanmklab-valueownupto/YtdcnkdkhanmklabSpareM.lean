/- spare's world: three rows, and the boxes of two values. -/
import Derived.Test.YtdcnkdkhanmklabRCopy
import Derived.Test.YtdcnkdkhanmklabElem
import Derived.Test.YtdcnkdkhanmklabAppF
namespace Go.Proofs.Ytdcnkdkhanmklab.SpareM
open Go.RowKit Go.Maps
open Go.Proofs.Ytdcnkdkhanmklab.SetMath
open Go.Proofs.Ytdcnkdkhanmklab.ValueMath
open Go.Proofs.Ytdcnkdkhanmklab.Base
open Go.Proofs.Ytdcnkdkhanmklab.Vals
set_option linter.unusedVariables false
set_option linter.unusedSimpArgs false
def sp : Bs := [115, 112, 97, 114, 101]
/- rows of one type alone have turned -/
structure Tu (t : TypeId) (B : Nat) (w w' : World) : Prop where
  low : Below B w w'
  oth : ∀ (k : Nat) (cur : Array Value) (u : TypeId) (p : Nat × Nat), w.heap[k]? = some (.cells cur u p) → u ≠ t → w'.heap[k]? = w.heap[k]?
theorem nr_tu {t : TypeId} {B C : Nat} {w w' : World} {v : Value} {l : List El} (h : NR B w v l) (f : Tu t C w w') (ht : 9 ≠ t) : NR B w' v l := by
  rcases h with h | ⟨g, c, cur, rfl, hB, hr, r⟩
  · exact .inl h
  · exact .inr ⟨g, c, cur, rfl, hB, (f.oth g _ _ _ hr ht).trans hr, r⟩
theorem row_tu {t : TypeId} {B C e sz n : Nat} {w w' : World} {v : Value} {xs : List Value} (h : w.ownsRow B e sz v n xs) (f : Tu t C w w') (ht : e ≠ t) : w'.ownsRow B e sz v n xs := by
  refine ⟨h.1, h.2.imp id ?_⟩
  rintro ⟨g, cap, cur, rfl, hbg, hg, rest⟩
  exact ⟨g, cap, cur, rfl, hbg, (f.oth g _ _ _ hg ht).trans hg, rest⟩
theorem tu_below {t : TypeId} {B : Nat} {w w' : World} (h : Below w.heap.size w w') (hB : B ≤ w.heap.size) : Tu t B w w' := ⟨h.mono hB, fun k _ _ _ hk _ => h.block k (lt_of hk)⟩
theorem Tu.trans {t : TypeId} {B : Nat} {a b c : World} (h : Tu t B a b) (k : Tu t B b c) : Tu t B a c := ⟨h.low.trans k.low, fun i cur u p hi hu => by
  have e := h.oth i cur u p hi hu
  exact (k.oth i cur u p (e.trans hi) hu).trans e⟩
theorem app_s {B : Nat} {w : World} {v : Value} {l : List El} (x : El) (h : NR B w v l) (hb : l.length * 16 ≤ 140737488355328) (hB : B ≤ w.heap.size) :
    ∃ v' w', (Builtin.append_ #[22, 22] 22 #[v, .slice (some ⟨w.heap.size, 0, none⟩) 1 1]).run Try.prog (w.alloc (.cells #[V x] 9)) = .ok v' w' ∧ NR B w' v' (l ++ [x]) ∧ Tu 9 B w w' := by
  have b1 := (Below.refl w.heap.size w).alloc (Nat.le_refl _) (.cells #[V x] 9)
  have hm : Rd (fun _ => True) (w.alloc (.cells #[V x] 9)) (some ⟨w.heap.size, 0, none⟩) [x] := by
    refine .inr ⟨w.heap.size, 0, rfl, trivial, fun j y hj => ?_⟩
    rw [Lib.cell_of_heap (heap_alloc_new w _)]
    cases j with
    | zero => simp at hj; subst hj; rfl
    | succ j => simp at hj
  have h' := h.below b1
  obtain ⟨v', w', h1, h2, h3, h4⟩ := AppF.app_fr (c := 1) h' hm (.inr ⟨rfl, hb⟩) (Nat.le_trans hB b1.size) 22
  refine ⟨v', w', h1, h2, (tu_below b1 hB).trans ⟨h3, fun k cur u p hk hu => h4 k (lt_of hk) ?_⟩⟩
  rintro g n c rfl rfl
  rcases h' with ⟨q, _⟩ | ⟨g', c', cur', q, _, hr, _⟩
  · cases q
  · injection q with q1
    injection q1 with q1
    injection q1 with q1
    subst q1
    rw [hk] at hr
    injection hr with hr
    injection hr with _ hr
    exact hu hr
theorem grown_tu {t : TypeId} {B sz n : Nat} {w w' : World} {v : Value} {xs : List Value} (h : w.ownsRow B t sz v n xs) (hB : B ≤ w.heap.size) (hg : w.grownBy w' v.ownBlock) : Tu t B w w' := by
  refine ⟨(Below.refl B w).grown hg hB (fun k hk => (h.lt k hk).1), fun k cur u p hk hu => ?_⟩
  refine hg.block k (lt_of hk) ?_
  rcases h.2 with ⟨rfl, _⟩ | ⟨g, cap, cur', rfl, _, hr, _⟩
  · simp [Value.ownBlock]
  · intro e
    have e' : k = g := by simpa [Value.ownBlock] using e
    subst e'
    rw [hk] at hr
    injection hr with hr
    injection hr with _ hr
    exact hu hr
theorem app_f {B : Nat} {w : World} {v : Value} {l : FRow.LL} (x : FRow.EN) (h : FRow.OR B w v l) (hb : l.length + 1 ≤ FRow.big) (hB : B ≤ w.heap.size) :
    ∃ v' w', (Builtin.append_ #[23, 23] 23 #[v, .slice (some ⟨w.heap.size, 0, none⟩) 1 1]).run Try.prog (w.alloc (.cells #[.string (mk x.1), .string (mk x.2)] 38)) = .ok v' w' ∧ FRow.OR B w' v' (l ++ [x]) ∧ Tu 38 B w w' := by
  have b1 := FRow.bnew w (.cells #[.string (mk x.1), .string (mk x.2)] 38)
  have h' := FRow.row_below h b1
  obtain ⟨v', w', h1, h2, h3⟩ := FRow.append_fs B _ v _ l [x] h' (FRow.fs_one w x) (Nat.le_trans hB b1.size) (by simpa using hb)
  exact ⟨v', w', h1, h2, (tu_below b1 hB).trans (grown_tu h' (Nat.le_trans hB b1.size) h3)⟩
theorem app_e {B : Nat} {w : World} {v : Value} {l : ERow.LL} (x : ERow.EN) (h : ERow.OR B w v l) (hb : l.length + 1 ≤ ERow.big) (hB : B ≤ w.heap.size) :
    ∃ v' w', (Builtin.append_ #[24, 24] 24 #[v, .slice (some ⟨w.heap.size, 0, none⟩) 1 1]).run Try.prog (w.alloc (.cells #[.string (mk x.1), .int .i64 x.2] 40)) = .ok v' w' ∧ ERow.OR B w' v' (l ++ [x]) ∧ Tu 40 B w w' := by
  have b1 := FRow.bnew w (.cells #[.string (mk x.1), .int .i64 x.2] 40)
  have h' := FRow.row_below h b1
  obtain ⟨v', w', h1, h2, h3⟩ := ERow.append_fs B _ v _ l [x] h' (ERow.fs_one w x) (Nat.le_trans hB b1.size) (by simpa using hb)
  exact ⟨v', w', h1, h2, (tu_below b1 hB).trans (grown_tu h' (Nat.le_trans hB b1.size) h3)⟩
/- the three boxes and the three rows -/
structure St (w : World) (p : Nat) (K T a1 a2 a3 A1 A2 A3 v1 v2 v3 : Value) (L : List El) (F : FRow.LL) (R : ERow.LL) (W : World) : Prop where
  b0 : W.heap[w.heap.size]? = some (.cells #[K, T, a1, a2, a3] 26 (0, 0))
  b1 : W.heap[w.heap.size + 1]? = some (.cells #[.int .i64 0, .string ⟨#[]⟩, .slice none 0 0, .slice none 0 0, .slice none 0 0] 26 (0, 0))
  bp : W.heap[p]? = some (.cells #[K, T, A1, A2, A3] 26 (0, 0))
  hp : w.heap.size + 2 ≤ p
  l : NR (w.heap.size + 2) W v1 L
  f : FRow.OR (w.heap.size + 2) W v2 F
  r : ERow.OR (w.heap.size + 2) W v3 R
  low : Below w.heap.size w W
section
variable {w W W' : World} {p : Nat} {K T a1 a2 a3 A1 A2 A3 v1 v2 v3 y : Value} {L : List El} {F : FRow.LL} {R : ERow.LL}
theorem St.size (h : St w p K T a1 a2 a3 A1 A2 A3 v1 v2 v3 L F R W) : w.heap.size + 2 ≤ W.heap.size := by have := lt_of h.bp; have := h.hp; omega
theorem St.grow (h : St w p K T a1 a2 a3 A1 A2 A3 v1 v2 v3 L F R W) (b : Below W.heap.size W W') : St w p K T a1 a2 a3 A1 A2 A3 v1 v2 v3 L F R W' :=
  ⟨(b.block _ (lt_of h.b0)).trans h.b0, (b.block _ (lt_of h.b1)).trans h.b1, (b.block _ (lt_of h.bp)).trans h.bp, h.hp, h.l.below b, FRow.row_below h.f b, FRow.row_below h.r b, FRow.bel h.low b (Nat.le_refl _)⟩
theorem St.drew (h : St w p K T a1 a2 a3 A1 A2 A3 v1 v2 v3 L F R W) : St w p K T a1 a2 a3 A1 A2 A3 v1 v2 v3 L F R W.drew := h.grow (Below.refl _ W).drew
theorem Tu.box {t : TypeId} {B : Nat} {k : Nat} {c : Array Value} (h : Tu t B W W') (ht : 26 ≠ t) (hk : W.heap[k]? = some (.cells c 26 (0, 0))) : W'.heap[k]? = some (.cells c 26 (0, 0)) := (h.oth k _ _ _ hk ht).trans hk
theorem st_app1 (h : St w p K T a1 a2 a3 A1 A2 A3 v1 v2 v3 L F R W) (hb : L.length * 16 ≤ 140737488355328) :
    ∃ v' w', (Builtin.append_ #[22, 22] 22 #[v1, .slice (some ⟨W.heap.size, 0, none⟩) 1 1]).run Try.prog (W.alloc (.cells #[.string (mk sp)] 9)) = .ok v' w' ∧ ∃ g c, v' = .slice (some ⟨g, 0, none⟩) (L.length + 1) c ∧ L.length ≤ c ∧ Hid (St w p K T a1 a2 a3 A1 A2 A3 v' v2 v3 (L ++ [sp]) F R w') := by
  obtain ⟨v', w', h1, h2, h3⟩ := app_s sp h.l hb h.size
  refine ⟨v', w', h1, ?_⟩
  rcases id h2 with ⟨_, q⟩ | ⟨g, c, cur, rfl, hB, hr, hx, hl, ht⟩
  · simp at q
  · rw [List.length_append] at hl
    refine ⟨g, c, by simp, by simp at hl; omega, hid_of ⟨h3.box (by decide) h.b0, h3.box (by decide) h.b1, h3.box (by decide) h.bp, h.hp, h2, row_tu h.f h3 (by decide), row_tu h.r h3 (by decide), h.low.trans (h3.low.mono (by omega))⟩⟩
theorem row_some {B t sz n : Nat} {v : Value} {xs : List Value} (h : W.ownsRow B t sz v n xs) (hn : 0 < n) : ∃ g c, v = .slice (some ⟨g, 0, none⟩) n c ∧ n ≤ c := by
  rcases h.2 with ⟨_, q⟩ | ⟨g, cap, cur, rfl, _, _, q, _⟩
  · omega
  · exact ⟨g, cap, rfl, q⟩
theorem st_app2 (h : St w p K T a1 a2 a3 A1 A2 A3 v1 v2 v3 L F R W) (hb : F.length + 1 ≤ FRow.big) :
    ∃ v' w', (Builtin.append_ #[23, 23] 23 #[v2, .slice (some ⟨W.heap.size, 0, none⟩) 1 1]).run Try.prog (W.alloc (.cells #[.string (mk sp), .string (mk [])] 38)) = .ok v' w' ∧ ∃ g c, v' = .slice (some ⟨g, 0, none⟩) (F.length + 1) c ∧ F.length ≤ c ∧ Hid (St w p K T a1 a2 a3 A1 A2 A3 v1 v' v3 L (F ++ [(sp, [])]) R w') := by
  obtain ⟨v', w', h1, h2, h3⟩ := app_f (sp, []) h.f hb h.size
  refine ⟨v', w', h1, ?_⟩
  obtain ⟨g, c, rfl, hl⟩ := row_some h2 (by simp)
  rw [List.length_append] at hl
  refine ⟨g, c, by simp, by simp at hl; omega, hid_of ⟨h3.box (by decide) h.b0, h3.box (by decide) h.b1, h3.box (by decide) h.bp, h.hp, nr_tu h.l h3 (by decide), h2, row_tu h.r h3 (by decide), h.low.trans (h3.low.mono (by omega))⟩⟩
theorem st_app3 (h : St w p K T a1 a2 a3 A1 A2 A3 v1 v2 v3 L F R W) (hb : R.length + 1 ≤ ERow.big) :
    ∃ v' w', (Builtin.append_ #[24, 24] 24 #[v3, .slice (some ⟨W.heap.size, 0, none⟩) 1 1]).run Try.prog (W.alloc (.cells #[.string (mk []), .int .i64 77] 40)) = .ok v' w' ∧ ∃ g c, v' = .slice (some ⟨g, 0, none⟩) (R.length + 1) c ∧ R.length ≤ c ∧ Hid (St w p K T a1 a2 a3 A1 A2 A3 v1 v2 v' L F (R ++ [([], 77)]) w') := by
  obtain ⟨v', w', h1, h2, h3⟩ := app_e ([], 77) h.r hb h.size
  refine ⟨v', w', h1, ?_⟩
  obtain ⟨g, c, rfl, hl⟩ := row_some h2 (by simp)
  rw [List.length_append] at hl
  refine ⟨g, c, by simp, by simp at hl; omega, hid_of ⟨h3.box (by decide) h.b0, h3.box (by decide) h.b1, h3.box (by decide) h.bp, h.hp, nr_tu h.l h3 (by decide), row_tu h.f h3 (by decide), h2, h.low.trans (h3.low.mono (by omega))⟩⟩
theorem set_tu {i : Nat} {c : Array Value} (hp : W.heap[p]? = some (.cells c 26 (0, 0))) (B : Nat) (hB : B ≤ p) (y : Value) : Tu 26 B W (W.setCell ⟨p, i, none⟩ y) :=
  ⟨seton hB, fun k cur u q hk hu => set_ne (by
    rintro rfl
    rw [hk] at hp
    injection hp with hp
    injection hp with _ hp
    exact hu hp) y⟩
theorem St.set1 (h : St w p K T a1 a2 a3 A1 A2 A3 v1 v2 v3 L F R W) (y : Value) : St w p K T a1 a2 a3 y A2 A3 v1 v2 v3 L F R (W.setCell ⟨p, 2, none⟩ y) := by
  have hp := h.hp
  have t := set_tu (i := 2) h.bp _ hp y
  exact ⟨(set_ne (by omega) y).trans h.b0, (set_ne (by omega) y).trans h.b1, set_at h.bp y, hp, nr_tu h.l t (by decide), row_tu h.f t (by decide), row_tu h.r t (by decide), h.low.trans (t.low.mono (by omega))⟩
theorem St.set2 (h : St w p K T a1 a2 a3 A1 A2 A3 v1 v2 v3 L F R W) (y : Value) : St w p K T a1 a2 a3 A1 y A3 v1 v2 v3 L F R (W.setCell ⟨p, 3, none⟩ y) := by
  have hp := h.hp
  have t := set_tu (i := 3) h.bp _ hp y
  exact ⟨(set_ne (by omega) y).trans h.b0, (set_ne (by omega) y).trans h.b1, set_at h.bp y, hp, nr_tu h.l t (by decide), row_tu h.f t (by decide), row_tu h.r t (by decide), h.low.trans (t.low.mono (by omega))⟩
theorem St.set3 (h : St w p K T a1 a2 a3 A1 A2 A3 v1 v2 v3 L F R W) (y : Value) : St w p K T a1 a2 a3 A1 A2 y v1 v2 v3 L F R (W.setCell ⟨p, 4, none⟩ y) := by
  have hp := h.hp
  have t := set_tu (i := 4) h.bp _ hp y
  exact ⟨(set_ne (by omega) y).trans h.b0, (set_ne (by omega) y).trans h.b1, set_at h.bp y, hp, nr_tu h.l t (by decide), row_tu h.f t (by decide), row_tu h.r t (by decide), h.low.trans (t.low.mono (by omega))⟩
end
end Go.Proofs.Ytdcnkdkhanmklab.SpareM
