/- What stood in memory stands when more is laid there. -/
import Derived.Laws.Rows
namespace Go.Proofs.YtpnigkjmofhmbabGreat
theorem hao (w : World) (o : Obj) (i : Nat) (h : i < w.heap.size) : (w.alloc o).heap[i]? = w.heap[i]? := by
  show (w.heap.push o)[i]? = w.heap[i]?
  rw [Array.getElem?_push, if_neg (Nat.ne_of_lt h)]
end Go.Proofs.YtpnigkjmofhmbabGreat
