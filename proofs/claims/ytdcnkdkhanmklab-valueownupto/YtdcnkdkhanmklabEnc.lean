/- Encode, Weight: the program's. -/
import Derived.Test.YtdcnkdkhanmklabEnc0
import Derived.Test.YtdcnkdkhanmklabCheck
namespace Go.Proofs.Ytdcnkdkhanmklab.Enc
open Go.RowKit Go.Maps
open Go.Proofs.Ytdcnkdkhanmklab.SetMath
open Go.Proofs.Ytdcnkdkhanmklab.BytesMath
open Go.Proofs.Ytdcnkdkhanmklab.FixMath
open Go.Proofs.Ytdcnkdkhanmklab.ValueMath
open Go.Proofs.Ytdcnkdkhanmklab.Base
open Go.Proofs.Ytdcnkdkhanmklab.Vals
open Go.Proofs.Ytdcnkdkhanmklab.Builder (Kp)
open Go.Proofs.Ytdcnkdkhanmklab.Write
open Go.Proofs.Ytdcnkdkhanmklab.Write2
open Go.Proofs.Ytdcnkdkhanmklab.Enc0
open Go.Proofs.Ytdcnkdkhanmklab.Check0
open Go.Proofs.Ytdcnkdkhanmklab.Check
set_option linter.unusedVariables false
set_option linter.unusedSimpArgs false

def encV (x : Vl) : Bs := if chk x = 0 then enc x else []
theorem sl_B {w W : World} {v : Value} {l : List El} (h : SL TT w v l) (hW : Below w.heap.size w W) {B : Nat} (hB : w.heap.size ≤ B) : SL (fun k => k < B) W v l := by
  obtain ⟨a, c, rfl, hc, hr⟩ := h
  have h2 : SL (fun k => k < w.heap.size) w (.slice a l.length c) l := ⟨a, c, rfl, hc, hr.lt.mono fun k hk _ => hk⟩
  exact (h2.below hW).mono fun k _ hk => Nat.lt_of_lt_of_le hk hB
theorem fs_B {w W : World} {v : Value} {l : FL} (h : FRow.FS w v l) {B : Nat} (hW : Below w.heap.size w W) (hB : w.heap.size ≤ B) (U : World) (hU : Below B W U) : FRow.FS U v l := h.below (hW.trans (hU.mono hB))
theorem es_B {w W : World} {v : Value} {l : EL} (h : ERow.FS w v l) {B : Nat} (hW : Below w.heap.size w W) (hB : w.heap.size ≤ B) (U : World) (hU : Below B W U) : ERow.FS U v l := h.below (hW.trans (hU.mono hB))
theorem set_l {l : List Bs} (h : setOk l = true) : lOk l = true := by unfold setOk at h; rw [Bool.and_eq_true] at h; exact h.1
theorem encode_call {w : World} {v : Value} {x : Vl} (h : VA w v x) (hf : Wel x) (hs : small x) (hlen : (enc x).length ≤ 140737488355328) :
    Calls Try.prog 10 #[v] w fun e w' => e = .returned (.tuple #[.string (mk (encV x)), .int .i64 (chk x)]) ∧ Below w.heap.size w w' := by
  obtain ⟨a, b, c, rfl, h1, h2, h3⟩ := h
  have HC := fun (W : World) (hW : Below w.heap.size w W) => checked_call (h1.below hW) (h2.below hW) (h3.below hW) hf
  by_cases h0 : chk x = 0
  · have hE : encV x = enc x := by unfold encV; rw [if_pos h0]
    rw [hE]
    obtain ⟨k1, k2, hst, hm⟩ := chk_zero h0
    have hl := hf.l
    have hbl : (encB x).length + 1 ≤ 140737488355328 := by unfold enc at hlen; simpa using hlen
    simp only [ckC, h0, if_true] at HC
    rw [h0]
    obtain ⟨s1, s2, s3⟩ := hs
    unfold mayBe at hm
    rcases kind5 k1 k2 with q | q | q | q | q
    · rw [if_pos q] at hm
      have eB : encB x = encT x.text := by unfold encB; rw [if_pos q]
      have eE : enc x = [1] ++ encT x.text := by unfold enc; rw [eB, q]; rfl
      rw [eB] at hbl
      rw [eE]
      have HCk : Hid (∀ W, Below w.heap.size w W → Calls Try.prog 17 #[.agg #[.int .i64 1, .string (mk x.text), a, b, c]] W fun e w' => e = .returned (.tuple #[.iface 74 (.string (mk x.text)), .int .i64 0]) ∧ Below W.heap.size W w') := hid_of fun W hW => by
        have := HC W hW
        rw [q] at this
        exact this
      have HWt : Hid (∀ W, Below w.heap.size w W → Calls Try.prog 57 #[.string (mk x.text)] W fun e w' => e = .returned (.int .i64 ((encT x.text).length : Nat)) ∧ Below W.heap.size W w') := hid_of fun W hW => (twt_call x.text W hf.t).mono fun e w' ⟨p1, p2⟩ => ⟨p1, by rw [p2]; exact Below.refl _ _⟩
      have HWr : Hid (∀ W B b', Below w.heap.size w W → w.heap.size ≤ B → B ≤ W.heap.size → BA B b' [1] W → Calls Try.prog 58 #[.string (mk x.text), ptr b'] W fun e w' => e = .returned (.tuple #[]) ∧ BA B b' ([1] ++ encT x.text) w' ∧ Kp B b' W w') := hid_of fun W B b' hW hwB hBW hBA => twr_call B b' _ x.text W hBA (by have := of_decide_eq_true hm; omega) (by rw [encT_len] at hbl; simp; omega) hBW
      rw [q]
      obtain ⟨aa, ac, rfl, _, _⟩ := id h1
      obtain ⟨ba, bc, rfl, _, _⟩ := id h2
      obtain ⟨ca, cc, rfl, _, _⟩ := id h3
      exact eraw1 (mk x.text) aa ba ca _ _ _ ac bc cc (encT x.text).length ([1] ++ encT x.text) w hbl HCk HWt HWr
    · rw [if_neg (by omega), if_pos q] at hm
      have eB : encB x = encC encT x.list := by unfold encB; rw [if_neg (by omega), if_pos (by omega)]
      have eE : enc x = [2] ++ encC encT x.list := by unfold enc; rw [eB, q]; rfl
      rw [eB] at hbl
      rw [eE]
      have HCk : Hid (∀ W, Below w.heap.size w W → Calls Try.prog 17 #[.agg #[.int .i64 2, .string (mk x.text), a, b, c]] W fun e w' => e = .returned (.tuple #[.iface 75 (a), .int .i64 0]) ∧ Below W.heap.size W w') := hid_of fun W hW => by
        have := HC W hW
        rw [q] at this
        exact this
      have HWt : Hid (∀ W, Below w.heap.size w W → Calls Try.prog 63 #[a] W fun e w' => e = .returned (.int .i64 ((encC encT x.list).length : Nat)) ∧ Below W.heap.size W w') := hid_of fun W hW => (lwt_call x.list a W (h1.below hW) (by omega) (by omega)).mono fun e w' ⟨p1, p2⟩ => ⟨p1, by rw [p2]; exact Below.refl _ _⟩
      have HWr : Hid (∀ W B b', Below w.heap.size w W → w.heap.size ≤ B → B ≤ W.heap.size → BA B b' [2] W → Calls Try.prog 64 #[a, ptr b'] W fun e w' => e = .returned (.tuple #[]) ∧ BA B b' ([2] ++ encC encT x.list) w' ∧ Kp B b' W w') := hid_of fun W B b' hW hwB hBW hBA => lwr_call B b' _ x.list a W hBA (sl_B h1 hW hwB) s1 (fun t ht => by have := lOk_all hm t ht; omega) (by simp; omega) hBW
      rw [q]
      obtain ⟨aa, ac, rfl, _, _⟩ := id h1
      obtain ⟨ba, bc, rfl, _, _⟩ := id h2
      obtain ⟨ca, cc, rfl, _, _⟩ := id h3
      exact eraw2 (mk x.text) aa ba ca _ _ _ ac bc cc (encC encT x.list).length ([2] ++ encC encT x.list) w hbl HCk HWt HWr
    · rw [if_neg (by omega), if_neg (by omega), if_pos q] at hm
      have eB : encB x = encC encF x.fields := by unfold encB; rw [if_neg (by omega), if_neg (by omega), if_pos q]
      have eE : enc x = [3] ++ encC encF x.fields := by unfold enc; rw [eB, q]; rfl
      rw [eB] at hbl
      rw [eE]
      have HCk : Hid (∀ W, Below w.heap.size w W → Calls Try.prog 17 #[.agg #[.int .i64 3, .string (mk x.text), a, b, c]] W fun e w' => e = .returned (.tuple #[.iface 76 (b), .int .i64 0]) ∧ Below W.heap.size W w') := hid_of fun W hW => by
        have := HC W hW
        rw [q] at this
        exact this
      have HWt : Hid (∀ W, Below w.heap.size w W → Calls Try.prog 66 #[b] W fun e w' => e = .returned (.int .i64 ((encC encF x.fields).length : Nat)) ∧ Below W.heap.size W w') := hid_of fun W hW => hwt_call x.fields b W (h2.below hW) (by omega) (by omega)
      have HWr : Hid (∀ W B b', Below w.heap.size w W → w.heap.size ≤ B → B ≤ W.heap.size → BA B b' [3] W → Calls Try.prog 67 #[b, ptr b'] W fun e w' => e = .returned (.tuple #[]) ∧ BA B b' ([3] ++ encC encF x.fields) w' ∧ Kp B b' W w') := hid_of fun W B b' hW hwB hBW hBA => hwr_call B b' _ x.fields b W hBA (fs_B h2 hW hwB) s2 (hash_len hm) (by simp; omega) hBW
      rw [q]
      obtain ⟨aa, ac, rfl, _, _⟩ := id h1
      obtain ⟨ba, bc, rfl, _, _⟩ := id h2
      obtain ⟨ca, cc, rfl, _, _⟩ := id h3
      exact eraw3 (mk x.text) aa ba ca _ _ _ ac bc cc (encC encF x.fields).length ([3] ++ encC encF x.fields) w hbl HCk HWt HWr
    · rw [if_neg (by omega), if_neg (by omega), if_neg (by omega), if_pos q] at hm
      have eB : encB x = encC encT x.list := by unfold encB; rw [if_neg (by omega), if_pos (by omega)]
      have eE : enc x = [4] ++ encC encT x.list := by unfold enc; rw [eB, q]; rfl
      rw [eB] at hbl
      rw [eE]
      have HCk : Hid (∀ W, Below w.heap.size w W → Calls Try.prog 17 #[.agg #[.int .i64 4, .string (mk x.text), a, b, c]] W fun e w' => e = .returned (.tuple #[.iface 77 (a), .int .i64 0]) ∧ Below W.heap.size W w') := hid_of fun W hW => by
        have := HC W hW
        rw [q] at this
        exact this
      have HWt : Hid (∀ W, Below w.heap.size w W → Calls Try.prog 70 #[a] W fun e w' => e = .returned (.int .i64 ((encC encT x.list).length : Nat)) ∧ Below W.heap.size W w') := hid_of fun W hW => (swt_call x.list a W (h1.below hW) (by omega) (by omega)).mono fun e w' ⟨p1, p2⟩ => ⟨p1, by rw [p2]; exact Below.refl _ _⟩
      have HWr : Hid (∀ W B b', Below w.heap.size w W → w.heap.size ≤ B → B ≤ W.heap.size → BA B b' [4] W → Calls Try.prog 71 #[a, ptr b'] W fun e w' => e = .returned (.tuple #[]) ∧ BA B b' ([4] ++ encC encT x.list) w' ∧ Kp B b' W w') := hid_of fun W B b' hW hwB hBW hBA => swr_call B b' _ x.list a W hBA (sl_B h1 hW hwB) s1 (fun t ht => by have := lOk_all (set_l hm) t ht; omega) (by simp; omega) hBW
      rw [q]
      obtain ⟨aa, ac, rfl, _, _⟩ := id h1
      obtain ⟨ba, bc, rfl, _, _⟩ := id h2
      obtain ⟨ca, cc, rfl, _, _⟩ := id h3
      exact eraw4 (mk x.text) aa ba ca _ _ _ ac bc cc (encC encT x.list).length ([4] ++ encC encT x.list) w hbl HCk HWt HWr
    · rw [if_neg (by omega), if_neg (by omega), if_neg (by omega), if_neg (by omega)] at hm
      have eB : encB x = encC encE x.ranked := by unfold encB; rw [if_neg (by omega), if_neg (by omega), if_neg (by omega)]
      have eE : enc x = [5] ++ encC encE x.ranked := by unfold enc; rw [eB, q]; rfl
      rw [eB] at hbl
      rw [eE]
      have HCk : Hid (∀ W, Below w.heap.size w W → Calls Try.prog 17 #[.agg #[.int .i64 5, .string (mk x.text), a, b, c]] W fun e w' => e = .returned (.tuple #[.iface 78 (c), .int .i64 0]) ∧ Below W.heap.size W w') := hid_of fun W hW => by
        have := HC W hW
        rw [q] at this
        exact this
      have HWt : Hid (∀ W, Below w.heap.size w W → Calls Try.prog 73 #[c] W fun e w' => e = .returned (.int .i64 ((encC encE x.ranked).length : Nat)) ∧ Below W.heap.size W w') := hid_of fun W hW => rwt_call x.ranked c W (h3.below hW) (by omega) (by omega)
      have HWr : Hid (∀ W B b', Below w.heap.size w W → w.heap.size ≤ B → B ≤ W.heap.size → BA B b' [5] W → Calls Try.prog 74 #[c, ptr b'] W fun e w' => e = .returned (.tuple #[]) ∧ BA B b' ([5] ++ encC encE x.ranked) w' ∧ Kp B b' W w') := hid_of fun W B b' hW hwB hBW hBA => rwr_call B b' _ x.ranked c W hBA (es_B h3 hW hwB) s3 (fun t ht => (rank_len hm t ht).1) (by simp; omega) hBW
      rw [q]
      obtain ⟨aa, ac, rfl, _, _⟩ := id h1
      obtain ⟨ba, bc, rfl, _, _⟩ := id h2
      obtain ⟨ca, cc, rfl, _, _⟩ := id h3
      exact eraw5 (mk x.text) aa ba ca _ _ _ ac bc cc (encC encE x.ranked).length ([5] ++ encC encE x.ranked) w hbl HCk HWt HWr
  · have hE : encV x = [] := by unfold encV; rw [if_neg h0]
    rw [hE]
    have HCk : Hid (∀ W, Below w.heap.size w W → Calls Try.prog 17 #[.agg #[.int .i64 x.kind, .string (mk x.text), a, b, c]] W fun e w' => e = .returned (.tuple #[.nilIface, .int .i64 (chk x)]) ∧ Below W.heap.size W w') := hid_of fun W hW => by
      have := HC W hW
      unfold ckC at this
      rw [if_neg h0] at this
      exact this
    obtain ⟨aa, ac, rfl, _, _⟩ := id h1
    obtain ⟨ba, bc, rfl, _, _⟩ := id h2
    obtain ⟨ca, cc, rfl, _, _⟩ := id h3
    exact eraw0 x.kind (mk x.text) aa ba ca _ _ _ ac bc cc (chk x) h0 w HCk
end Go.Proofs.Ytdcnkdkhanmklab.Enc
