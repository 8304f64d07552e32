/- A tree counted anew; its first entry; how many at its beginning are so. -/
import Derived.Test.YtighoelipihifabGreatDoorPiece
namespace Go.Proofs.YtighoelipihifabGreatDoor.Settle
open Go.RowKit Go.Maps Go.Sort
open Go.Proofs.YtighoelipihifabGreatDoor.MapMath
open Go.Proofs.YtighoelipihifabGreatDoor.RankMath
open Go.Proofs.YtighoelipihifabGreatDoor.RankMath2
open Go.Proofs.YtighoelipihifabGreatDoor.RankMath3
open Go.Proofs.YtighoelipihifabGreatDoor.Base
open Go.Proofs.YtighoelipihifabGreatDoor.Cmp
open Go.Proofs.YtighoelipihifabGreatDoor.Tree
open Go.Proofs.YtighoelipihifabGreatDoor.Piece
set_option linter.unusedVariables false

structure Rs (L : EL) (S : Nat → Prop) (w : World) (t : T) (w' : World) : Prop where
  list : t.list = L
  tr : Tr w' t
  nd : t.blks.Nodup
  own : ∀ b ∈ t.blks, S b ∨ w.heap.size ≤ b
  mo : Mo S w w'
def RsE (L : EL) (S : Nat → Prop) (w : World) (e : Ending) (w' : World) : Prop := ∃ q t, e = .returned (.pointer q) ∧ Hid (t.addr = q ∧ Rs L S w t w')
theorem seg_all (l : EL) : seg l 0 l.length = l := by unfold seg; simp
set_option maxHeartbeats 4000000 in
set_option maxRecDepth 100000 in
theorem settled_call (b : Nat) (l : T) (x : Ent) (r : T) (n0 : Int) (w : World) (hb : w.heap[b]? = some (nB x n0 l.ptr r.ptr)) (hl : Tr w l) (hr : Tr w r) (nd : (b :: (l.blks ++ r.blks)).Nodup) (hn : l.list.length + 1 + r.list.length ≤ big) :
    Calls Tryz.prog 54 #[.pointer (some ⟨b, 0, none⟩)] w fun e w' => RsE (l.list ++ x :: r.list) (fun k => k ∈ b :: (l.blks ++ r.blks)) w e w' := by
  obtain ⟨N, hN⟩ : ∃ N, N = l.list.length := ⟨_, rfl⟩
  obtain ⟨M, hM⟩ : ∃ M, M = r.list.length := ⟨_, rfl⟩
  have hdN : ∀ k, Below w.heap.size w (w.drewN k) := fun k => ⟨rfl, rfl, rfl, Nat.le_refl _, fun _ _ => rfl⟩
  have H1 : Hid (∀ k, Calls Tryz.prog 44 #[l.ptr] (w.drewN k) fun e w' => e = .returned (.int .i64 (N : Int)) ∧ w' = (w.drewN k)) := hid_of fun k => by rw [hN]; exact tlen_call l _ (hl.below (hdN k))
  have H2 : Hid (∀ k, Calls Tryz.prog 44 #[r.ptr] (w.drewN k) fun e w' => e = .returned (.int .i64 (M : Int)) ∧ w' = (w.drewN k)) := hid_of fun k => by rw [hM]; exact tlen_call r _ (hr.below (hdN k))
  obtain ⟨c0, c1, c2, c3, c4⟩ := node_c hb
  have f2 : w.frozen? ⟨b, 2, none⟩ = false := Lib.frozen_of_heap hb 2
  have HT : Hid (∀ k, Tr ((w.drewN k).setCell ⟨b, 2, none⟩ (.int .i64 ((N + 1 + M : Nat) : Int))) (.node b l x r)) := hid_of fun k => by
    have nd' := List.nodup_cons.1 nd
    refine ⟨?_, hl.keep fun i hi => ?_, hr.keep fun i hi => ?_⟩
    · rw [set_at (w := w.drewN k) hb, ← hN, ← hM]; rfl
    · exact set_ne (w := w.drewN k) (fun (e : i = b) => nd'.1 (List.mem_append.2 (Or.inl (by rw [← e]; exact hi)))) _
    · exact set_ne (w := w.drewN k) (fun (e : i = b) => nd'.1 (List.mem_append.2 (Or.inr (by rw [← e]; exact hi)))) _
  have HM : Hid (∀ k, Mo (fun i => i ∈ b :: (l.blks ++ r.blks)) w ((w.drewN k).setCell ⟨b, 2, none⟩ (.int .i64 ((N + 1 + M : Nat) : Int)))) := hid_of fun k => Mo.trans (Mo.of_below (S := fun i => i ∈ b :: (l.blks ++ r.blks)) (hdN k)) (Mo.set (S := fun i => i = b) (w := w.drewN k) (i := 2) hb rfl (.int .i64 ((N + 1 + M : Nat) : Int))) (fun i _ e => by rw [e]; exact List.mem_cons_self)
  have HL : Hid ((T.node b l x r).list.length = N + 1 + M) := hid_of (by show (l.list ++ x :: r.list).length = _; rw [hN, hM]; simp; omega)
  have e1 : IntKind.i64.wrap ((N : Int) + 1) = (N : Int) + 1 := IntWalk.i64_in _ (by unfold big at hn; omega)
  have e2 : IntKind.i64.wrap ((N : Int) + 1 + (M : Int)) = ((N + 1 + M : Nat) : Int) := by rw [show ((N : Int) + 1 + (M : Int)) = ((N + 1 + M : Nat) : Int) from by omega]; exact IntWalk.i64_in _ (by unfold big at hn; omega)
  obtain ⟨K, hK⟩ : ∃ K, K = N + 1 + M := ⟨_, rfl⟩
  obtain ⟨X, hX⟩ : ∃ X, X = max N M := ⟨_, rfl⟩
  have e3 : max (N : Int) (M : Int) = (X : Int) := by omega
  have e4 : IntKind.i64.wrap (3 * (X : Int)) = 3 * (X : Int) := IntWalk.i64_in _ (by unfold big at hn; omega)
  have e5 : IntKind.i64.wrap (2 * (K : Int)) = 2 * (K : Int) := IntWalk.i64_in _ (by unfold big at hn; omega)
  rw [← hK] at HT HM HL e2
  have HND := hid_of nd
  have HB := hid_of hb
  have hKb : K ≤ big := by unfold big at *; omega
  clear hN hM hX hK nd hl hr hdN
  unfold T.ptr at *
  have HP : Hid (∀ k, Calls Tryz.prog 52 #[.pointer (some ⟨b, 0, none⟩), .slice none 0 0, .int .i64 0, .int .i64 (K : Int)] ((w.drewN k).setCell ⟨b, 2, none⟩ (.int .i64 (K : Int))) fun e w' => PcE ((w.drewN k).setCell ⟨b, 2, none⟩ (.int .i64 (K : Int))) [] (l.list ++ x :: r.list) e w') := hid_of fun k => by
    have h := piece_call (.node b l x r) _ _ (.slice none 0 0) [] 0 (K : Int) (HT.out k) (bd_start _) (by unfold lim; omega) (by unfold lim; omega) (by unfold lim; unfold big at hKb; omega) (by rw [HL.out]; simp; exact hKb)
    rw [Int.toNat_natCast, ← HL.out, seg_all] at h
    rw [HL.out] at h
    exact h
  have HBL : Hid (∀ W v, FS W v (l.list ++ x :: r.list) → Calls Tryz.prog 20 #[v] W fun e w' => BalE (l.list ++ x :: r.list) W e w') := hid_of fun W v h => bal_call _ v _ W (Nat.le_refl _) h (by have := HL.out; have e : (T.node b l x r).list = l.list ++ x :: r.list := rfl; rw [← e, this]; exact hKb)
  generalize hLA : l.addr = LA at *
  generalize hRA : r.addr = RA at *
  go_enter Tryz.func54, Tryz.ntmps54
  go_wp2_with fail
  go_quiet ((first | (go_at_call_of 44 (Value.pointer LA); exact Calls.quiet_of_same (H1.out _)) | (go_at_call_of 44 (Value.pointer RA); exact Calls.quiet_of_same (H2.out _))))
  have HT' := hid_of (HT.out nq)
  have HM' := hid_of (HM.out nq)
  have HP' := hid_of (HP.out nq)
  clear HT HM HP H1 H2
  by_cases hq : 3 * (X : Int) ≤ 2 * (K : Int)
  · go_wp2_with fail
    go_ret
    exact ⟨_, .node b l x r, rfl, rfl, rfl, HT'.out, HND.out, fun i hi => Or.inl hi, HM'.out⟩
  · go_wp2_with fail
    refine HP'.out.mono ?_
    rintro e w1 ⟨v1, rfl, b1⟩
    rw [List.nil_append] at b1
    have H3 := hid_of (HBL.out w1 v1 (fs_row b1.row))
    have B1 := hid_of b1
    clear b1
    go_wp2_with fail
    refine H3.out.mono ?_
    rintro e w2 ⟨q2, t2, rfl, B2⟩
    go_wp2_with fail
    go_ret
    refine ⟨_, t2, rfl, B2.out.1, B2.out.2.list, B2.out.2.tr, B2.out.2.nd, fun i hi => Or.inr ?_, ?_⟩
    · have h1 := B2.out.2.low i hi
      have h2 := B1.out.bel.size
      have h3 := HM'.out.size
      omega
    · exact (HM'.out.then_below B1.out.bel).then_below B2.out.2.bel
end Go.Proofs.YtighoelipihifabGreatDoor.Settle
