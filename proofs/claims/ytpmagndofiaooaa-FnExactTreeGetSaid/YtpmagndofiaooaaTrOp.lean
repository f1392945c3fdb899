import Derived.Test.YtpmagndofiaooaaChecked
import Derived.Test.YtpmagndofiaooaaTt
import Derived.Deep.Slices
namespace Go.Proofs.Ytpmagndofiaooaa
open Go.RowKit Go.Deep Go.ChangeShapes Go.WideShapes Go.ChangeAt
set_option linter.unusedVariables false
set_option maxRecDepth 100000
section
variable {H : Type} {enc : TypeId × Value → H} {w : World} {spare : Nat → Bool} {held : Bool}

theorem tcStr : Try.prog.cellsOf 9 = 1 := by kernel_rfl
theorem tcI64 : Try.prog.cellsOf 2 = 1 := by kernel_rfl
theorem tcBool : Try.prog.cellsOf 4 = 1 := by kernel_rfl
theorem tcStrs : Try.prog.cellsOf 58 = 1 := by kernel_rfl
theorem tcInts : Try.prog.cellsOf 59 = 1 := by kernel_rfl
theorem tcNode : Try.prog.cellsOf 108 = 6 := by kernel_rfl
theorem tcNodes : Try.prog.cellsOf 35 = 1 := by kernel_rfl
theorem tcTree : Try.prog.cellsOf 37 = 1 := by kernel_rfl
theorem addr_ofT {a : Addr} {v : Value} (h : w.cell? a = some v) : ∃ b off, a = ⟨b, off, none⟩ ∧ b < w.heap.size := by
  obtain ⟨b, off, spot⟩ := a
  have hspot : spot = none := World.cell?_spot h
  subst hspot
  exact ⟨b, off, rfl, lt_of_cell h⟩
theorem getD_rangeT {α : Type} (F : Nat → α) (n i : Nat) (d : α) (h : i < n) : ((List.range n).map F).getD i d = F i := by
  simp [List.getD, h]
theorem str_openT {fuel : Nat} {cs : List Value} {x : DataW H × List MemPlace} (h : DataW.trod enc Try.prog w 0 spare held fuel 9 cs = some x) : ∃ s : ByteArray, strFit s ∧ cs = strCells s := by
  obtain ⟨s, e0, _, hs⟩ := DataW.trod_string Try.underlying9 h
  exact ⟨s, hs, e0⟩
theorem int_openT {fuel : Nat} {cs : List Value} {x : DataW H × List MemPlace} (h : DataW.trod enc Try.prog w 0 spare held fuel 2 cs = some x) : ∃ q : Int, I64 q ∧ cs = intCells q := by
  obtain ⟨q, e1, _, hq⟩ := DataW.trod_int Try.underlying2 h
  exact ⟨q, bounds_i64 hq, e1⟩
theorem strs_openT {fuel : Nat} {cs : List Value} {x : DataW H × List MemPlace} (h : DataW.trod enc Try.prog w 0 spare held fuel 58 cs = some x) : ∃ a n c fs, cs = [.slice a n c] ∧ StrsAt w 0 w.heap.size a n c fs := by
  rcases open_slice Try.underlying58 h with ⟨rfl, _⟩ | ⟨a, len, cap, m, k, D, Pl, rfl, _, hl, hm, hmm, _, he⟩
  · exact ⟨none, 0, 0, [], rfl, rfl, Nat.le_refl _, Nat.zero_le _, fun i hi => absurd hi (Nat.not_lt_zero _), fun h => absurd h (Nat.lt_irrefl _)⟩
  · have hml : len ≤ m := by rw [hmm]; split <;> omega
    by_cases h0 : len = 0
    · subst h0
      exact ⟨some a, 0, cap, [], rfl, rfl, hl, hm, fun i hi => absurd hi (Nat.not_lt_zero _), fun h => absurd h (Nat.lt_irrefl _)⟩
    · rw [tcStr] at he
      obtain ⟨cs0, hc0, _⟩ := he 0 (by omega)
      obtain ⟨_, hl0, hg0⟩ := World.cells?_some hc0
      have h00 := hg0 0 (by omega)
      rw [List.getElem?_eq_getElem (by omega)] at h00
      obtain ⟨b, off, rfl, hlt⟩ : ∃ b off, a = ⟨b, off, none⟩ ∧ b < w.heap.size := addr_ofT (by simpa [Addr.add] using h00)
      have hadd : ∀ k, (⟨b, off, none⟩ : Addr).add k = ⟨b, off + k, none⟩ := fun k => by simp [Addr.add]
      obtain ⟨F, hF⟩ := choose_lt (α := ByteArray) (n := len) (p := fun i f => strFit f ∧ ∀ j, j < 1 → w.cell? ⟨b, off + i * 1 + j, none⟩ = (strCells f)[j]?) (fun i hi => by
        obtain ⟨cs', hc', ht⟩ := he i (by omega)
        obtain ⟨_, hl', hg'⟩ := World.cells?_some hc'
        obtain ⟨f, hf, rfl⟩ := str_openT ht
        refine ⟨f, hf, fun j hj => ?_⟩
        have := hg' j hj
        rwa [hadd, show (⟨b, off + i * 1, none⟩ : Addr).add j = ⟨b, off + i * 1 + j, none⟩ by simp [Addr.add]] at this)
      refine ⟨some ⟨b, off, none⟩, len, cap, (List.range len).map F, rfl, by simp, hl, hm, fun i hi => ?_, fun _ => ⟨b, off, rfl, ⟨Nat.zero_le _, hlt⟩, fun i hi j hj => ?_⟩⟩
      · rw [getD_rangeT _ _ _ _ hi]; exact (hF i hi).1
      · rw [getD_rangeT _ _ _ _ hi]; exact (hF i hi).2 j hj
theorem ints_openT {fuel : Nat} {cs : List Value} {x : DataW H × List MemPlace} (h : DataW.trod enc Try.prog w 0 spare held fuel 59 cs = some x) : ∃ a n c fs, cs = [.slice a n c] ∧ IntsAt w 0 w.heap.size a n c fs := by
  rcases open_slice Try.underlying59 h with ⟨rfl, _⟩ | ⟨a, len, cap, m, k, D, Pl, rfl, _, hl, hm, hmm, _, he⟩
  · exact ⟨none, 0, 0, [], rfl, rfl, Nat.le_refl _, Nat.zero_le _, fun i hi => absurd hi (Nat.not_lt_zero _), fun h => absurd h (Nat.lt_irrefl _)⟩
  · have hml : len ≤ m := by rw [hmm]; split <;> omega
    by_cases h0 : len = 0
    · subst h0
      exact ⟨some a, 0, cap, [], rfl, rfl, hl, hm, fun i hi => absurd hi (Nat.not_lt_zero _), fun h => absurd h (Nat.lt_irrefl _)⟩
    · rw [tcI64] at he
      obtain ⟨cs0, hc0, _⟩ := he 0 (by omega)
      obtain ⟨_, hl0, hg0⟩ := World.cells?_some hc0
      have h00 := hg0 0 (by omega)
      rw [List.getElem?_eq_getElem (by omega)] at h00
      obtain ⟨b, off, rfl, hlt⟩ : ∃ b off, a = ⟨b, off, none⟩ ∧ b < w.heap.size := addr_ofT (by simpa [Addr.add] using h00)
      have hadd : ∀ k, (⟨b, off, none⟩ : Addr).add k = ⟨b, off + k, none⟩ := fun k => by simp [Addr.add]
      obtain ⟨F, hF⟩ := choose_lt (α := Int) (n := len) (p := fun i f => I64 f ∧ ∀ j, j < 1 → w.cell? ⟨b, off + i * 1 + j, none⟩ = (intCells f)[j]?) (fun i hi => by
        obtain ⟨cs', hc', ht⟩ := he i (by omega)
        obtain ⟨_, hl', hg'⟩ := World.cells?_some hc'
        obtain ⟨f, hf, rfl⟩ := int_openT ht
        refine ⟨f, hf, fun j hj => ?_⟩
        have := hg' j hj
        rwa [hadd, show (⟨b, off + i * 1, none⟩ : Addr).add j = ⟨b, off + i * 1 + j, none⟩ by simp [Addr.add]] at this)
      refine ⟨some ⟨b, off, none⟩, len, cap, (List.range len).map F, rfl, by simp, hl, hm, fun i hi => ?_, fun _ => ⟨b, off, rfl, ⟨Nat.zero_le _, hlt⟩, fun i hi j hj => ?_⟩⟩
      · rw [getD_rangeT _ _ _ _ hi]; exact (hF i hi).1
      · rw [getD_rangeT _ _ _ _ hi]; exact (hF i hi).2 j hj
/-- The cells of a node that came in. -/
structure TNodeOp (w : World) (t : TN) (cs : List Value) (ka : Option Addr) (kn kc : Nat) (va : Option Addr) (vn vc : Nat) (oa : Option Addr) (on oc : Nat) (ya : Option Addr) (yn yc : Nat) : Prop where
  cs : cs = [.bool t.leaf, .int .i64 t.page, .slice ka kn kc, .slice va vn vc, .slice oa on oc, .slice ya yn yc]
  page : I64 t.page
  keys : StrsAt w 0 w.heap.size ka kn kc t.keys
  vals : StrsAt w 0 w.heap.size va vn vc t.vals
  over : IntsAt w 0 w.heap.size oa on oc t.over
  kids : IntsAt w 0 w.heap.size ya yn yc t.kids
theorem node_openT {fuel : Nat} {cs : List Value} {x : DataW H × List MemPlace} (h : DataW.trod enc Try.prog w 0 spare held fuel 108 cs = some x) : ∃ t ka kn kc va vn vc oa on oc ya yn yc, TNodeOp w t cs ka kn kc va vn vc oa on oc ya yn yc := by
  obtain ⟨xs, n, _, _, hl, hlen, hf⟩ := DataW.trod_struct Try.underlying108 h
  rw [tcNode] at hl
  match cs, hl with
  | [v0, v1, v2, v3, v4, v5], _ =>
    match xs, hlen with
    | [y0, y1, y2, y3, y4, y5], _ =>
      have h0 : DataW.trod enc Try.prog w 0 spare held n 4 [v0] = some y0 := by simpa [tcBool] using hf 0 _ rfl
      have h1 : DataW.trod enc Try.prog w 0 spare held n 2 [v1] = some y1 := by simpa [tcBool, tcI64] using hf 1 _ rfl
      have h2 : DataW.trod enc Try.prog w 0 spare held n 58 [v2] = some y2 := by simpa [tcBool, tcI64, tcStrs] using hf 2 _ rfl
      have h3 : DataW.trod enc Try.prog w 0 spare held n 58 [v3] = some y3 := by simpa [tcBool, tcI64, tcStrs] using hf 3 _ rfl
      have h4 : DataW.trod enc Try.prog w 0 spare held n 59 [v4] = some y4 := by simpa [tcBool, tcI64, tcStrs, tcInts] using hf 4 _ rfl
      have h5 : DataW.trod enc Try.prog w 0 spare held n 59 [v5] = some y5 := by simpa [tcBool, tcI64, tcStrs, tcInts] using hf 5 _ rfl
      obtain ⟨lf, e0, _⟩ := DataW.trod_bool Try.underlying4 h0
      obtain ⟨pg, hp, e1⟩ := int_openT h1
      obtain ⟨ka, kn, kc, ks, e2, hK⟩ := strs_openT h2
      obtain ⟨va, vn, vc, vs, e3, hV⟩ := strs_openT h3
      obtain ⟨oa, on, oc, os, e4, hO⟩ := ints_openT h4
      obtain ⟨ya, yn, yc, ys, e5, hY⟩ := ints_openT h5
      unfold intCells at e1
      simp only [List.cons.injEq, and_true] at e0 e1 e2 e3 e4 e5
      subst e0 e1 e2 e3 e4 e5
      exact ⟨⟨lf, pg, ks, vs, os, ys⟩, ka, kn, kc, va, vn, vc, oa, on, oc, ya, yn, yc, rfl, hp, hK, hV, hO, hY⟩
theorem nodes_openT {fuel : Nat} {cs : List Value} {x : DataW H × List MemPlace} (h : DataW.trod enc Try.prog w 0 spare held fuel 35 cs = some x) : ∃ a n c ts, cs = [.slice a n c] ∧ NodesAt w 0 w.heap.size a n c ts := by
  rcases open_slice Try.underlying35 h with ⟨rfl, _⟩ | ⟨a, len, cap, m, k, D, Pl, rfl, _, hl, hm, hmm, _, he⟩
  · exact ⟨none, 0, 0, [], rfl, rfl, Nat.le_refl _, Nat.zero_le _, fun h => absurd h (Nat.lt_irrefl _)⟩
  · have hml : len ≤ m := by rw [hmm]; split <;> omega
    by_cases h0 : len = 0
    · subst h0
      exact ⟨some a, 0, cap, [], rfl, rfl, hl, hm, fun h => absurd h (Nat.lt_irrefl _)⟩
    · rw [tcNode] at he
      obtain ⟨cs0, hc0, _⟩ := he 0 (by omega)
      obtain ⟨_, hl0, hg0⟩ := World.cells?_some hc0
      have h00 := hg0 0 (by omega)
      rw [List.getElem?_eq_getElem (by omega)] at h00
      obtain ⟨b, off, rfl, hlt⟩ : ∃ b off, a = ⟨b, off, none⟩ ∧ b < w.heap.size := addr_ofT (by simpa [Addr.add] using h00)
      have hadd : ∀ k, (⟨b, off, none⟩ : Addr).add k = ⟨b, off + k, none⟩ := fun k => by simp [Addr.add]
      have hinh : Inhabited TN := ⟨dT⟩
      obtain ⟨F, hF⟩ := choose_lt (α := TN) (n := len) (p := fun i t => ∃ ka kn kc va vn vc oa on oc ya yn yc, TNodeIs w 0 w.heap.size b (off + i * 6) t ka kn kc va vn vc oa on oc ya yn yc) (fun i hi => by
        obtain ⟨cs', hc', ht⟩ := he i (by omega)
        obtain ⟨_, hl', hg'⟩ := World.cells?_some hc'
        obtain ⟨t, ka, kn, kc, va, vn, vc, oa, on, oc, ya, yn, yc, hop⟩ := node_openT ht
        refine ⟨t, ka, kn, kc, va, vn, vc, oa, on, oc, ya, yn, yc, ?_⟩
        have hcell : ∀ j, j < 6 → w.cell? ⟨b, off + i * 6 + j, none⟩ = cs'[j]? := fun j hj => by
          have := hg' j hj
          rwa [hadd, show (⟨b, off + i * 6, none⟩ : Addr).add j = ⟨b, off + i * 6 + j, none⟩ by simp [Addr.add]] at this
        rw [hop.cs] at hcell
        exact ⟨by simpa using hcell 0 (by omega), by simpa using hcell 1 (by omega), by simpa using hcell 2 (by omega), by simpa using hcell 3 (by omega), by simpa using hcell 4 (by omega), by simpa using hcell 5 (by omega), hop.page, hop.keys, hop.vals, hop.over, hop.kids⟩)
      refine ⟨some ⟨b, off, none⟩, len, cap, (List.range len).map F, rfl, by simp, hl, hm, fun _ => ⟨b, off, rfl, ⟨Nat.zero_le _, hlt⟩, fun i hi => ?_⟩⟩
      rw [getD_rangeT _ _ _ _ hi]
      exact hF i hi
theorem tree_open {r : Reach} {b0 : Nat} {v : Value} {d : DataW H} {p : List MemPlace} (hv : Value.okWide Try.prog w r b0 37 v) (h : DataW.Trod enc Try.prog w 0 spare held 37 v d p) :
    ∃ (a : Option Addr) (n c : Nat) (ts : List TN), v = .agg #[.slice a n c] ∧ NodesAt w 0 w.heap.size a n c ts := by
  obtain ⟨cs, rfl, hsz⟩ := okWide_struct Try.underlying37 hv
  obtain ⟨l⟩ := cs
  rw [tcTree] at hsz
  obtain ⟨fuel, hf⟩ := h
  match l, hsz with
  | [v0], _ =>
    obtain ⟨xs, n, _, _, hl, hlen, hff⟩ := DataW.trod_struct Try.underlying37 hf
    match xs, hlen with
    | [y0], _ =>
      have h0 : DataW.trod enc Try.prog w 0 spare held n 35 [v0] = some y0 := by simpa [Value.cells, tcNodes] using hff 0 _ rfl
      obtain ⟨a, n3, c, ts, e3, hN⟩ := nodes_openT h0
      simp only [List.cons.injEq, and_true] at e3
      subst e3
      exact ⟨a, n3, c, ts, rfl, hN⟩
end
end Go.Proofs.Ytpmagndofiaooaa
