import Derived.Test.YtmmdkjeoadlikaaMem
import Derived.Test.YtmmdkjeoadlikaaChecked
import Derived.Deep.Slices
namespace Go.Proofs.Ytmmdkjeoadlikaa
open Go.RowKit Go.Deep Go.ChangeShapes Go.WideShapes Go.ChangeAt
set_option linter.unusedVariables false
set_option maxRecDepth 100000
section
variable {H : Type} {enc : TypeId × Value → H} {w : World} {spare : Nat → Bool} {held : Bool}

theorem cellsU8 : Try.prog.cellsOf 5 = 1 := by kernel_rfl
theorem cellsStr : Try.prog.cellsOf 9 = 1 := by kernel_rfl
theorem cellsI64 : Try.prog.cellsOf 2 = 1 := by kernel_rfl
theorem cellsBool : Try.prog.cellsOf 4 = 1 := by kernel_rfl
theorem cellsBytes : Try.prog.cellsOf 27 = 1 := by kernel_rfl
theorem cellsLF : Try.prog.cellsOf 90 = 2 := by kernel_rfl
theorem cellsLP : Try.prog.cellsOf 92 = 3 := by kernel_rfl
theorem cellsLFs : Try.prog.cellsOf 22 = 1 := by kernel_rfl
theorem cellsLPs : Try.prog.cellsOf 23 = 1 := by kernel_rfl
theorem cellsLD : Try.prog.cellsOf 25 = 5 := by kernel_rfl

theorem bytes_open {fuel : Nat} {cs : List Value} {x : DataW H × List MemPlace} (h : DataW.trod enc Try.prog w 0 spare held fuel 27 cs = some x) : ∃ a n c bs, cs = [.slice a n c] ∧ BytesAt w 0 w.heap.size a n c bs := by
  rcases open_ints Try.underlying27 Try.underlying5 cellsU8 h with ⟨rfl, _⟩ | ⟨a, len, cap, zs, rfl, _, hl, hm, hz, _, hc, hw⟩
  · exact ⟨none, 0, 0, [], rfl, rfl, Nat.le_refl _, Nat.zero_le _, (fun x hx => by cases hx), fun h => absurd h (Nat.lt_irrefl _), fun _ => rfl⟩
  · have hzl : len ≤ zs.length := by rw [hz]; split <;> omega
    refine ⟨some a, len, cap, zs.take len, rfl, by simp; omega, hl, hm, fun x hx => ?_, fun hn => ?_, fun h => by cases h⟩
    · exact bounds_u8 (hw x (List.mem_of_mem_take hx))
    · obtain ⟨b, off, spot⟩ := a
      have h0 := hc 0 (by omega)
      have hspot : spot = none := by simpa [Addr.add] using World.cell?_spot h0
      subst hspot
      have hlt : b < w.heap.size := lt_of_cell (by simpa [Addr.add] using h0)
      refine ⟨b, off, rfl, ⟨Nat.zero_le _, hlt⟩, fun i hi => ?_⟩
      have h1 := hc i (by omega)
      rw [show (⟨b, off, none⟩ : Addr).add i = ⟨b, off + i, none⟩ by simp [Addr.add]] at h1
      rw [h1]
      congr 2
      simp [List.getD, hi]
theorem file_open {fuel : Nat} {cs : List Value} {x : DataW H × List MemPlace} {b o : Nat} (h : DataW.trod enc Try.prog w 0 spare held fuel 90 cs = some x) (hc : ∀ i, i < 2 → w.cell? ⟨b, o + i, none⟩ = cs[i]?) : ∃ f : PF, FileIs w 0 w.heap.size b o f := by
  obtain ⟨xs, n, _, _, hl, hlen, hf⟩ := DataW.trod_struct Try.underlying90 h
  rw [cellsLF] at hl
  match cs, hl with
  | [v0, v1], _ =>
    match xs, hlen with
    | [y0, y1], _ =>
      have h0 : DataW.trod enc Try.prog w 0 spare held n 9 [v0] = some y0 := by simpa [cellsStr] using hf 0 _ rfl
      have h1 : DataW.trod enc Try.prog w 0 spare held n 27 [v1] = some y1 := by simpa [cellsBytes] using hf 1 _ rfl
      obtain ⟨s, e0, _, hs⟩ := DataW.trod_string Try.underlying9 h0
      obtain ⟨a, n, c, bs, e1, hb⟩ := bytes_open h1
      simp only [List.cons.injEq, and_true] at e0 e1
      subst e0 e1
      exact ⟨(s, bs), by simpa using hc 0 (by omega), hs, a, n, c, by simpa using hc 1 (by omega), hb⟩
theorem pend_open {fuel : Nat} {cs : List Value} {x : DataW H × List MemPlace} {b o : Nat} (h : DataW.trod enc Try.prog w 0 spare held fuel 92 cs = some x) (hc : ∀ i, i < 3 → w.cell? ⟨b, o + i, none⟩ = cs[i]?) : ∃ f : PP, PendIs w 0 w.heap.size b o f := by
  obtain ⟨xs, n, _, _, hl, hlen, hf⟩ := DataW.trod_struct Try.underlying92 h
  rw [cellsLP] at hl
  match cs, hl with
  | [v0, v1, v2], _ =>
    match xs, hlen with
    | [y0, y1, y2], _ =>
      have h0 : DataW.trod enc Try.prog w 0 spare held n 9 [v0] = some y0 := by simpa [cellsStr] using hf 0 _ rfl
      have h1 : DataW.trod enc Try.prog w 0 spare held n 2 [v1] = some y1 := by simpa [cellsI64] using hf 1 _ rfl
      have h2 : DataW.trod enc Try.prog w 0 spare held n 27 [v2] = some y2 := by simpa [cellsBytes] using hf 2 _ rfl
      obtain ⟨s, e0, _, hs⟩ := DataW.trod_string Try.underlying9 h0
      obtain ⟨q, e1, _, hq⟩ := DataW.trod_int Try.underlying2 h1
      obtain ⟨a, n, c, bs, e2, hb⟩ := bytes_open h2
      simp only [List.cons.injEq, and_true] at e0 e1 e2
      subst e0 e1 e2
      exact ⟨(s, q, bs), by simpa using hc 0 (by omega), hs, by simpa using hc 1 (by omega), bounds_i64 hq, a, n, c, by simpa using hc 2 (by omega), hb⟩
theorem addr_of {a : Addr} {v : Value} (h : w.cell? a = some v) : ∃ b off, a = ⟨b, off, none⟩ ∧ b < w.heap.size := by
  obtain ⟨b, off, spot⟩ := a
  have hspot : spot = none := World.cell?_spot h
  subst hspot
  exact ⟨b, off, rfl, lt_of_cell h⟩
theorem getD_range {α : Type} (F : Nat → α) (n i : Nat) (d : α) (h : i < n) : ((List.range n).map F).getD i d = F i := by
  simp [List.getD, h]
theorem files_open {fuel : Nat} {cs : List Value} {x : DataW H × List MemPlace} (h : DataW.trod enc Try.prog w 0 spare held fuel 22 cs = some x) : ∃ a n c fs, cs = [.slice a n c] ∧ FilesAt w 0 w.heap.size a n c fs := by
  rcases open_slice Try.underlying22 h with ⟨rfl, _⟩ | ⟨a, len, cap, m, k, D, Pl, rfl, _, hl, hm, hmm, _, he⟩
  · exact ⟨none, 0, 0, [], rfl, rfl, Nat.le_refl _, Nat.zero_le _, fun h => absurd h (Nat.lt_irrefl _)⟩
  · have hml : len ≤ m := by rw [hmm]; split <;> omega
    by_cases h0 : len = 0
    · subst h0
      exact ⟨some a, 0, cap, [], rfl, rfl, hl, hm, fun h => absurd h (Nat.lt_irrefl _)⟩
    · rw [cellsLF] at he
      obtain ⟨cs0, hc0, _⟩ := he 0 (by omega)
      obtain ⟨_, hl0, hg0⟩ := World.cells?_some hc0
      have h00 := hg0 0 (by omega)
      rw [List.getElem?_eq_getElem (by omega)] at h00
      obtain ⟨b, off, rfl, hlt⟩ : ∃ b off, a = ⟨b, off, none⟩ ∧ b < w.heap.size := addr_of (by simpa [Addr.add] using h00)
      have hadd : ∀ k, (⟨b, off, none⟩ : Addr).add k = ⟨b, off + k, none⟩ := fun k => by simp [Addr.add]
      obtain ⟨F, hF⟩ := choose_lt (α := PF) (n := len) (p := fun i f => FileIs w 0 w.heap.size b (off + i * 2) f) (fun i hi => by
        obtain ⟨cs', hc', ht⟩ := he i (by omega)
        obtain ⟨_, hl', hg'⟩ := World.cells?_some hc'
        refine file_open ht (fun j hj => ?_)
        have := hg' j hj
        rwa [hadd, show (⟨b, off + i * 2, none⟩ : Addr).add j = ⟨b, off + i * 2 + j, none⟩ by simp [Addr.add]] at this)
      refine ⟨some ⟨b, off, none⟩, len, cap, (List.range len).map F, rfl, by simp, hl, hm, fun _ => ⟨b, off, rfl, ⟨Nat.zero_le _, hlt⟩, fun i hi => ?_⟩⟩
      rw [getD_range _ _ _ _ hi]
      exact hF i hi
theorem pends_open {fuel : Nat} {cs : List Value} {x : DataW H × List MemPlace} (h : DataW.trod enc Try.prog w 0 spare held fuel 23 cs = some x) : ∃ a n c fs, cs = [.slice a n c] ∧ PendsAt w 0 w.heap.size a n c fs := by
  rcases open_slice Try.underlying23 h with ⟨rfl, _⟩ | ⟨a, len, cap, m, k, D, Pl, rfl, _, hl, hm, hmm, _, he⟩
  · exact ⟨none, 0, 0, [], rfl, rfl, Nat.le_refl _, Nat.zero_le _, fun h => absurd h (Nat.lt_irrefl _)⟩
  · have hml : len ≤ m := by rw [hmm]; split <;> omega
    by_cases h0 : len = 0
    · subst h0
      exact ⟨some a, 0, cap, [], rfl, rfl, hl, hm, fun h => absurd h (Nat.lt_irrefl _)⟩
    · rw [cellsLP] at he
      obtain ⟨cs0, hc0, _⟩ := he 0 (by omega)
      obtain ⟨_, hl0, hg0⟩ := World.cells?_some hc0
      have h00 := hg0 0 (by omega)
      rw [List.getElem?_eq_getElem (by omega)] at h00
      obtain ⟨b, off, rfl, hlt⟩ : ∃ b off, a = ⟨b, off, none⟩ ∧ b < w.heap.size := addr_of (by simpa [Addr.add] using h00)
      have hadd : ∀ k, (⟨b, off, none⟩ : Addr).add k = ⟨b, off + k, none⟩ := fun k => by simp [Addr.add]
      obtain ⟨F, hF⟩ := choose_lt (α := PP) (n := len) (p := fun i f => PendIs w 0 w.heap.size b (off + i * 3) f) (fun i hi => by
        obtain ⟨cs', hc', ht⟩ := he i (by omega)
        obtain ⟨_, hl', hg'⟩ := World.cells?_some hc'
        refine pend_open ht (fun j hj => ?_)
        have := hg' j hj
        rwa [hadd, show (⟨b, off + i * 3, none⟩ : Addr).add j = ⟨b, off + i * 3 + j, none⟩ by simp [Addr.add]] at this)
      refine ⟨some ⟨b, off, none⟩, len, cap, (List.range len).map F, rfl, by simp, hl, hm, fun _ => ⟨b, off, rfl, ⟨Nat.zero_le _, hlt⟩, fun i hi => ?_⟩⟩
      rw [getD_range _ _ _ _ hi]
      exact hF i hi
theorem disk_open {r : Reach} {b0 : Nat} {v : Value} {d : DataW H} {p : List MemPlace} (hv : Value.okWide Try.prog w r b0 25 v) (h : DataW.Trod enc Try.prog w 0 spare held 25 v d p) :
    ∃ a n c fs b m k ps cp fu de, v = .agg #[.slice a n c, .slice b m k, .int .i64 cp, .int .i64 fu, .bool de] ∧ FilesAt w 0 w.heap.size a n c fs ∧ PendsAt w 0 w.heap.size b m k ps ∧ (-9223372036854775808 ≤ cp ∧ cp ≤ 9223372036854775807) ∧ (-9223372036854775808 ≤ fu ∧ fu ≤ 9223372036854775807) := by
  obtain ⟨cs, rfl, hsz⟩ := okWide_struct Try.underlying25 hv
  obtain ⟨l⟩ := cs
  rw [cellsLD] at hsz
  obtain ⟨fuel, hf⟩ := h
  match l, hsz with
  | [v0, v1, v2, v3, v4], _ =>
    obtain ⟨xs, n, _, _, hl, hlen, hff⟩ := DataW.trod_struct Try.underlying25 hf
    match xs, hlen with
    | [y0, y1, y2, y3, y4], _ =>
      have h0 : DataW.trod enc Try.prog w 0 spare held n 22 [v0] = some y0 := by simpa [Value.cells, cellsLFs] using hff 0 _ rfl
      have h1 : DataW.trod enc Try.prog w 0 spare held n 23 [v1] = some y1 := by simpa [Value.cells, cellsLPs] using hff 1 _ rfl
      have h2 : DataW.trod enc Try.prog w 0 spare held n 2 [v2] = some y2 := by simpa [Value.cells, cellsI64] using hff 2 _ rfl
      have h3 : DataW.trod enc Try.prog w 0 spare held n 2 [v3] = some y3 := by simpa [Value.cells, cellsI64] using hff 3 _ rfl
      have h4 : DataW.trod enc Try.prog w 0 spare held n 4 [v4] = some y4 := by simpa [Value.cells, cellsBool] using hff 4 _ rfl
      obtain ⟨a, n, c, fs, e0, hF⟩ := files_open h0
      obtain ⟨b, m, k, ps, e1, hP⟩ := pends_open h1
      obtain ⟨cp, e2, _, w2⟩ := DataW.trod_int Try.underlying2 h2
      obtain ⟨fu, e3, _, w3⟩ := DataW.trod_int Try.underlying2 h3
      obtain ⟨de, e4, _⟩ := DataW.trod_bool Try.underlying4 h4
      simp only [List.cons.injEq, and_true] at e0 e1 e2 e3 e4
      subst e0 e1 e2 e3 e4
      exact ⟨a, n, c, fs, b, m, k, ps, cp, fu, de, rfl, hF, hP, bounds_i64 w2, bounds_i64 w3⟩
end
end Go.Proofs.Ytmmdkjeoadlikaa
