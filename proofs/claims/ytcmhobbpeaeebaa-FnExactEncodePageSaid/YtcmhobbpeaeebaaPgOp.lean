import Derived.Test.YtcmhobbpeaeebaaChecked
import Derived.Test.YtcmhobbpeaeebaaPgX
import Derived.Deep.Slices
namespace Go.Proofs.Ytcmhobbpeaeebaa
open Go.RowKit Go.Deep Go.ChangeShapes Go.WideShapes Go.ChangeAt
set_option linter.unusedVariables false
set_option maxRecDepth 100000
section
variable {H : Type} {enc : TypeId × Value → H} {w : World} {spare : Nat → Bool} {held : Bool}

theorem pcStr : Try.prog.cellsOf 9 = 1 := by kernel_rfl
theorem pcI64 : Try.prog.cellsOf 2 = 1 := by kernel_rfl
theorem pcKid : Try.prog.cellsOf 125 = 2 := by kernel_rfl
theorem pcEnt : Try.prog.cellsOf 127 = 4 := by kernel_rfl
theorem pcMeta : Try.prog.cellsOf 40 = 3 := by kernel_rfl
theorem pcKids : Try.prog.cellsOf 41 = 1 := by kernel_rfl
theorem pcEnts : Try.prog.cellsOf 42 = 1 := by kernel_rfl
theorem pcPage : Try.prog.cellsOf 44 = 9 := by kernel_rfl

theorem kid_open {fuel : Nat} {cs : List Value} {x : DataW H × List MemPlace} (h : DataW.trod enc Try.prog w 0 spare held fuel 125 cs = some x) : ∃ k : PK, kidFit k ∧ cs = kidCells k := by
  obtain ⟨xs, n, _, _, hl, hlen, hf⟩ := DataW.trod_struct Try.underlying125 h
  rw [pcKid] at hl
  match cs, hl with
  | [v0, v1], _ =>
    match xs, hlen with
    | [y0, y1], _ =>
      have h0 : DataW.trod enc Try.prog w 0 spare held n 9 [v0] = some y0 := by simpa [pcStr] using hf 0 _ rfl
      have h1 : DataW.trod enc Try.prog w 0 spare held n 2 [v1] = some y1 := by simpa [pcI64] using hf 1 _ rfl
      obtain ⟨s, e0, _, hs⟩ := DataW.trod_string Try.underlying9 h0
      obtain ⟨q, e1, _, hq⟩ := DataW.trod_int Try.underlying2 h1
      simp only [List.cons.injEq, and_true] at e0 e1
      subst e0 e1
      exact ⟨(s, q), ⟨hs, bounds_i64 hq⟩, rfl⟩
theorem ent_open {fuel : Nat} {cs : List Value} {x : DataW H × List MemPlace} (h : DataW.trod enc Try.prog w 0 spare held fuel 127 cs = some x) : ∃ k : PE, entFit k ∧ cs = entCells k := by
  obtain ⟨xs, n, _, _, hl, hlen, hf⟩ := DataW.trod_struct Try.underlying127 h
  rw [pcEnt] at hl
  match cs, hl with
  | [v0, v1, v2, v3], _ =>
    match xs, hlen with
    | [y0, y1, y2, y3], _ =>
      have h0 : DataW.trod enc Try.prog w 0 spare held n 9 [v0] = some y0 := by simpa [pcStr] using hf 0 _ rfl
      have h1 : DataW.trod enc Try.prog w 0 spare held n 9 [v1] = some y1 := by simpa [pcStr] using hf 1 _ rfl
      have h2 : DataW.trod enc Try.prog w 0 spare held n 2 [v2] = some y2 := by simpa [pcStr, pcI64] using hf 2 _ rfl
      have h3 : DataW.trod enc Try.prog w 0 spare held n 2 [v3] = some y3 := by simpa [pcStr, pcI64] using hf 3 _ rfl
      obtain ⟨s, e0, _, hs⟩ := DataW.trod_string Try.underlying9 h0
      obtain ⟨s', e1, _, hs'⟩ := DataW.trod_string Try.underlying9 h1
      obtain ⟨q, e2, _, hq⟩ := DataW.trod_int Try.underlying2 h2
      obtain ⟨q', e3, _, hq'⟩ := DataW.trod_int Try.underlying2 h3
      simp only [List.cons.injEq, and_true] at e0 e1 e2 e3
      subst e0 e1 e2 e3
      exact ⟨(s, s', q, q'), ⟨hs, hs', bounds_i64 hq, bounds_i64 hq'⟩, rfl⟩
theorem addr_of' {a : Addr} {v : Value} (h : w.cell? a = some v) : ∃ b off, a = ⟨b, off, none⟩ ∧ b < w.heap.size := by
  obtain ⟨b, off, spot⟩ := a
  have hspot : spot = none := World.cell?_spot h
  subst hspot
  exact ⟨b, off, rfl, lt_of_cell h⟩
theorem getD_range' {α : Type} (F : Nat → α) (n i : Nat) (d : α) (h : i < n) : ((List.range n).map F).getD i d = F i := by
  simp [List.getD, h]
theorem kids_open {fuel : Nat} {cs : List Value} {x : DataW H × List MemPlace} (h : DataW.trod enc Try.prog w 0 spare held fuel 41 cs = some x) : ∃ a n c fs, cs = [.slice a n c] ∧ KidsAt w 0 w.heap.size a n c fs := by
  rcases open_slice Try.underlying41 h with ⟨rfl, _⟩ | ⟨a, len, cap, m, k, D, Pl, rfl, _, hl, hm, hmm, _, he⟩
  · exact ⟨none, 0, 0, [], rfl, rfl, Nat.le_refl _, Nat.zero_le _, fun i hi => absurd hi (Nat.not_lt_zero _), fun h => absurd h (Nat.lt_irrefl _)⟩
  · have hml : len ≤ m := by rw [hmm]; split <;> omega
    by_cases h0 : len = 0
    · subst h0
      exact ⟨some a, 0, cap, [], rfl, rfl, hl, hm, fun i hi => absurd hi (Nat.not_lt_zero _), fun h => absurd h (Nat.lt_irrefl _)⟩
    · rw [pcKid] at he
      obtain ⟨cs0, hc0, _⟩ := he 0 (by omega)
      obtain ⟨_, hl0, hg0⟩ := World.cells?_some hc0
      have h00 := hg0 0 (by omega)
      rw [List.getElem?_eq_getElem (by omega)] at h00
      obtain ⟨b, off, rfl, hlt⟩ : ∃ b off, a = ⟨b, off, none⟩ ∧ b < w.heap.size := addr_of' (by simpa [Addr.add] using h00)
      have hadd : ∀ k, (⟨b, off, none⟩ : Addr).add k = ⟨b, off + k, none⟩ := fun k => by simp [Addr.add]
      obtain ⟨F, hF⟩ := choose_lt (α := PK) (n := len) (p := fun i f => kidFit f ∧ ∀ j, j < 2 → w.cell? ⟨b, off + i * 2 + j, none⟩ = (kidCells f)[j]?) (fun i hi => by
        obtain ⟨cs', hc', ht⟩ := he i (by omega)
        obtain ⟨_, hl', hg'⟩ := World.cells?_some hc'
        obtain ⟨f, hf, rfl⟩ := kid_open ht
        refine ⟨f, hf, fun j hj => ?_⟩
        have := hg' j hj
        rwa [hadd, show (⟨b, off + i * 2, none⟩ : Addr).add j = ⟨b, off + i * 2 + j, none⟩ by simp [Addr.add]] at this)
      refine ⟨some ⟨b, off, none⟩, len, cap, (List.range len).map F, rfl, by simp, hl, hm, fun i hi => ?_, fun _ => ⟨b, off, rfl, ⟨Nat.zero_le _, hlt⟩, fun i hi j hj => ?_⟩⟩
      · rw [getD_range' _ _ _ _ hi]; exact (hF i hi).1
      · rw [getD_range' _ _ _ _ hi]; exact (hF i hi).2 j hj
theorem ents_open {fuel : Nat} {cs : List Value} {x : DataW H × List MemPlace} (h : DataW.trod enc Try.prog w 0 spare held fuel 42 cs = some x) : ∃ a n c fs, cs = [.slice a n c] ∧ EntsAt w 0 w.heap.size a n c fs := by
  rcases open_slice Try.underlying42 h with ⟨rfl, _⟩ | ⟨a, len, cap, m, k, D, Pl, rfl, _, hl, hm, hmm, _, he⟩
  · exact ⟨none, 0, 0, [], rfl, rfl, Nat.le_refl _, Nat.zero_le _, fun i hi => absurd hi (Nat.not_lt_zero _), fun h => absurd h (Nat.lt_irrefl _)⟩
  · have hml : len ≤ m := by rw [hmm]; split <;> omega
    by_cases h0 : len = 0
    · subst h0
      exact ⟨some a, 0, cap, [], rfl, rfl, hl, hm, fun i hi => absurd hi (Nat.not_lt_zero _), fun h => absurd h (Nat.lt_irrefl _)⟩
    · rw [pcEnt] at he
      obtain ⟨cs0, hc0, _⟩ := he 0 (by omega)
      obtain ⟨_, hl0, hg0⟩ := World.cells?_some hc0
      have h00 := hg0 0 (by omega)
      rw [List.getElem?_eq_getElem (by omega)] at h00
      obtain ⟨b, off, rfl, hlt⟩ : ∃ b off, a = ⟨b, off, none⟩ ∧ b < w.heap.size := addr_of' (by simpa [Addr.add] using h00)
      have hadd : ∀ k, (⟨b, off, none⟩ : Addr).add k = ⟨b, off + k, none⟩ := fun k => by simp [Addr.add]
      obtain ⟨F, hF⟩ := choose_lt (α := PE) (n := len) (p := fun i f => entFit f ∧ ∀ j, j < 4 → w.cell? ⟨b, off + i * 4 + j, none⟩ = (entCells f)[j]?) (fun i hi => by
        obtain ⟨cs', hc', ht⟩ := he i (by omega)
        obtain ⟨_, hl', hg'⟩ := World.cells?_some hc'
        obtain ⟨f, hf, rfl⟩ := ent_open ht
        refine ⟨f, hf, fun j hj => ?_⟩
        have := hg' j hj
        rwa [hadd, show (⟨b, off + i * 4, none⟩ : Addr).add j = ⟨b, off + i * 4 + j, none⟩ by simp [Addr.add]] at this)
      refine ⟨some ⟨b, off, none⟩, len, cap, (List.range len).map F, rfl, by simp, hl, hm, fun i hi => ?_, fun _ => ⟨b, off, rfl, ⟨Nat.zero_le _, hlt⟩, fun i hi j hj => ?_⟩⟩
      · rw [getD_range' _ _ _ _ hi]; exact (hF i hi).1
      · rw [getD_range' _ _ _ _ hi]; exact (hF i hi).2 j hj
theorem page_open {r : Reach} {b0 : Nat} {v : Value} {d : DataW H} {p : List MemPlace} (hv : Value.okWide Try.prog w r b0 44 v) (h : DataW.Trod enc Try.prog w 0 spare held 44 v d p) :
    ∃ (q : Pg) (ka : Option Addr) (kc : Nat) (ea : Option Addr) (ec : Nat), v = .agg #[.int .i64 q.kind, .int .i64 q.tx, .int .i64 q.id, .int .i64 q.root, .int .i64 q.count, .slice ka q.ks.length kc, .slice ea q.es.length ec, .int .i64 q.next, .string q.data] ∧ PgFit q ∧ KidsAt w 0 w.heap.size ka q.ks.length kc q.ks ∧ EntsAt w 0 w.heap.size ea q.es.length ec q.es := by
  obtain ⟨cs, rfl, hsz⟩ := okWide_struct Try.underlying44 hv
  obtain ⟨l⟩ := cs
  rw [pcPage] at hsz
  obtain ⟨fuel, hf⟩ := h
  match l, hsz with
  | [v0, v1, v2, v3, v4, v5, v6, v7, v8], _ =>
    obtain ⟨xs, n, _, _, hl, hlen, hff⟩ := DataW.trod_struct Try.underlying44 hf
    match xs, hlen with
    | [y0, y1, y2, y3, y4, y5, y6], _ =>
      have h0 : DataW.trod enc Try.prog w 0 spare held n 2 [v0] = some y0 := by simpa [Value.cells, pcI64] using hff 0 _ rfl
      have h1 : DataW.trod enc Try.prog w 0 spare held n 2 [v1] = some y1 := by simpa [Value.cells, pcI64] using hff 1 _ rfl
      have h2 : DataW.trod enc Try.prog w 0 spare held n 40 [v2, v3, v4] = some y2 := by simpa [Value.cells, pcI64, pcMeta] using hff 2 _ rfl
      have h3 : DataW.trod enc Try.prog w 0 spare held n 41 [v5] = some y3 := by simpa [Value.cells, pcI64, pcMeta, pcKids] using hff 3 _ rfl
      have h4 : DataW.trod enc Try.prog w 0 spare held n 42 [v6] = some y4 := by simpa [Value.cells, pcI64, pcMeta, pcKids, pcEnts] using hff 4 _ rfl
      have h5 : DataW.trod enc Try.prog w 0 spare held n 2 [v7] = some y5 := by simpa [Value.cells, pcI64, pcMeta, pcKids, pcEnts] using hff 5 _ rfl
      have h6 : DataW.trod enc Try.prog w 0 spare held n 9 [v8] = some y6 := by simpa [Value.cells, pcI64, pcMeta, pcKids, pcEnts, pcStr] using hff 6 _ rfl
      obtain ⟨kind, e0, _, q0⟩ := DataW.trod_int Try.underlying2 h0
      obtain ⟨tx, e1, _, q1⟩ := DataW.trod_int Try.underlying2 h1
      obtain ⟨a, n3, c, ks, e3, hK⟩ := kids_open h3
      obtain ⟨b, n4, c4, es, e4, hE⟩ := ents_open h4
      obtain ⟨next, e5, _, q5⟩ := DataW.trod_int Try.underlying2 h5
      obtain ⟨data, e6, _, q6⟩ := DataW.trod_string Try.underlying9 h6
      obtain ⟨zs, n', _, _, hl', hlen', hff'⟩ := DataW.trod_struct Try.underlying40 h2
      match zs, hlen' with
      | [z0, z1, z2], _ =>
        have m0 : DataW.trod enc Try.prog w 0 spare held n' 2 [v2] = some z0 := by simpa [pcI64] using hff' 0 _ rfl
        have m1 : DataW.trod enc Try.prog w 0 spare held n' 2 [v3] = some z1 := by simpa [pcI64] using hff' 1 _ rfl
        have m2 : DataW.trod enc Try.prog w 0 spare held n' 2 [v4] = some z2 := by simpa [pcI64] using hff' 2 _ rfl
        obtain ⟨id, f0, _, r0⟩ := DataW.trod_int Try.underlying2 m0
        obtain ⟨root, f1, _, r1⟩ := DataW.trod_int Try.underlying2 m1
        obtain ⟨count, f2, _, r2⟩ := DataW.trod_int Try.underlying2 m2
        simp only [List.cons.injEq, and_true] at e0 e1 e3 e4 e5 e6 f0 f1 f2
        subst e0 e1 e3 e4 e5 e6 f0 f1 f2
        have hk := hK.1
        have he := hE.1
        subst hk he
        exact ⟨⟨kind, tx, id, root, count, ks, es, next, data⟩, a, c, b, c4, rfl, ⟨bounds_i64 q0, bounds_i64 q1, bounds_i64 r0, bounds_i64 r1, bounds_i64 r2, bounds_i64 q5, q6⟩, hK, hE⟩
end
end Go.Proofs.Ytcmhobbpeaeebaa
