import Derived.Test.YtcjjbajmjfgbcaaGAB
namespace Go.Proofs.Ytcjjbajmjfgbcaa
open Go.RowKit
set_option linter.unusedVariables false
set_option maxRecDepth 100000

def GotNodes (w : World) (g0 : Nat) (xs : List Value) (ts : List TN) (k : Nat) : Prop :=
 ∀ j, j < k → I64 (ts.getD j dT).page ∧ ∃ ka kn kc va vn vc oa on oc ya yn yc, xs[j * 6]? = some (.bool (ts.getD j dT).leaf) ∧ xs[j * 6 + 1]? = some (.int .i64 (ts.getD j dT).page) ∧ xs[j * 6 + 2]? = some (.slice ka kn kc) ∧ xs[j * 6 + 3]? = some (.slice va vn vc) ∧ xs[j * 6 + 4]? = some (.slice oa on oc) ∧ xs[j * 6 + 5]? = some (.slice ya yn yc) ∧
  StrsAt w (g0 + 1) w.heap.size ka kn kc (ts.getD j dT).keys ∧ StrsAt w (g0 + 1) w.heap.size va vn vc (ts.getD j dT).vals ∧ IntsAt w (g0 + 1) w.heap.size oa on oc (ts.getD j dT).over ∧ IntsAt w (g0 + 1) w.heap.size ya yn yc (ts.getD j dT).kids ∧
  (RoomL w (g0 + 1) ka kn ∧ RoomL w (g0 + 1) va vn ∧ RoomL w (g0 + 1) oa on ∧ RoomL w (g0 + 1) ya yn)
def put6K (w : World) (g k : Nat) (u0 u1 u2 u3 u4 u5 : Value) : World := (((((w.setCell ⟨g, k * 6, none⟩ u0).setCell ⟨g, k * 6 + 1, none⟩ u1).setCell ⟨g, k * 6 + 2, none⟩ u2).setCell ⟨g, k * 6 + 3, none⟩ u3).setCell ⟨g, k * 6 + 4, none⟩ u4).setCell ⟨g, k * 6 + 5, none⟩ u5
def MarkT (w : World) (lo g n : Nat) (ts : List TN) : Prop := ∃ xs, w.ownsRow lo 92 6 (.slice (some ⟨g, 0, none⟩) n n) n xs ∧ ts.length = n ∧ ∀ j, j < n → ∃ ka kn kc va vn vc oa on oc ya yn yc, xs[j * 6 + 2]? = some (.slice ka kn kc) ∧ xs[j * 6 + 3]? = some (.slice va vn vc) ∧ xs[j * 6 + 4]? = some (.slice oa on oc) ∧ xs[j * 6 + 5]? = some (.slice ya yn yc) ∧
 (kn = (ts.getD j dT).keys.length ∧ vn = (ts.getD j dT).vals.length ∧ on = (ts.getD j dT).over.length ∧ yn = (ts.getD j dT).kids.length) ∧ (RoomL w (g + 1) ka kn ∧ RoomL w (g + 1) va vn ∧ RoomL w (g + 1) oa on ∧ RoomL w (g + 1) ya yn)
def SmallT (ts : List TN) : Prop := ∀ j, j < ts.length → (ts.getD j dT).keys.length ≤ 1048576 ∧ (ts.getD j dT).vals.length ≤ 1048576 ∧ (ts.getD j dT).over.length ≤ 1048576 ∧ (ts.getD j dT).kids.length ≤ 1048576
end Go.Proofs.Ytcjjbajmjfgbcaa
