import Derived.WalkKit
import Derived.ProofKit
import Derived.OpenShut
import Derived.Below
import Derived.Test.YtakdaandbdbdnaaChecked
import Derived.OwnWalk
import Derived.Deep.QuietTactic
import Derived.BigQuiet
import Derived.Deep.RegionWith
import Derived.Laws.AppendOwnNone
import Derived.Deep.RegionLaw
import Derived.WalkSpells
import Derived.WalkLawsBesides
import Derived.Laws.IdiomStrings
namespace Go.Proofs.Ytakdaandbdbdnaa
open Go.RowKit
set_option linter.unusedVariables false
set_option maxRecDepth 100000

/-- What stands below the old heap's end reads as it did. -/
theorem bcell {W w1 : World} (hb : Below W.heap.size W w1) : (∀ b o, b < W.heap.size → w1.cell? ⟨b, o, none⟩ = W.cell? ⟨b, o, none⟩) ∧ (∀ b o, b < W.heap.size → w1.frozen? ⟨b, o, none⟩ = W.frozen? ⟨b, o, none⟩) :=
  ⟨fun b o h => hb.cell (p := ⟨b, o, none⟩) h, fun b o h => hb.frozen (p := ⟨b, o, none⟩) h⟩

theorem lt_of_cell {w : World} {b o : Nat} {v : Value} (h : w.cell? ⟨b, o, none⟩ = some v) : b < w.heap.size := by
  by_cases hb : b < w.heap.size
  · exact hb
  · simp [World.cell?, Array.getElem?_eq_none (Nat.le_of_not_lt hb)] at h

/-- A file and a cached write as plain data. -/
abbrev PF := ByteArray × List Int
abbrev PP := ByteArray × Int × List Int

/-- The bytes behind a slice. -/
def BytesAt (w : World) (A B : Nat) (a : Option Addr) (n c : Nat) (bs : List Int) : Prop :=
  bs.length = n ∧ n ≤ c ∧ c ≤ maxLen ∧ (∀ x ∈ bs, 0 ≤ x ∧ x ≤ 255) ∧ (0 < n → ∃ b off, a = some ⟨b, off, none⟩ ∧ (A ≤ b ∧ b < B) ∧ ∀ i, i < n → w.cell? ⟨b, off + i, none⟩ = some (.int .u8 (bs.getD i 0))) ∧ (a = none → c = 0)

/-- The blocks from A to B are as they were. -/
def Keeps (A B : Nat) (w w' : World) : Prop := ∀ k, A ≤ k → k < B → w'.heap[k]? = w.heap[k]?
theorem Keeps.of_below {A B : Nat} {w w' : World} (h : Below B w w') : Keeps A B w w' := fun k _ hk => h.block k hk
theorem Keeps.refl (A B : Nat) (w : World) : Keeps A B w w := fun _ _ _ => rfl
theorem Keeps.set {A B : Nat} {w w' : World} (h : Keeps A B w w') {p : Addr} (hp : p.block < A ∨ B ≤ p.block) (u : Value) : Keeps A B w (w'.setCell p u) :=
  fun k h1 h2 => (Below.heap_setCell w' p u k (by omega)).trans (h k h1 h2)
theorem Keeps.trans {A B : Nat} {a b c : World} (h : Keeps A B a b) (k : Keeps A B b c) : Keeps A B a c := fun i h1 h2 => (k i h1 h2).trans (h i h1 h2)
theorem Keeps.mono {A B A' B' : Nat} {a b : World} (h : Keeps A B a b) (hA : A ≤ A') (hB : B' ≤ B) : Keeps A' B' a b := fun i h1 h2 => h i (by omega) (by omega)
theorem Keeps.cell {A B : Nat} {w w' : World} (h : Keeps A B w w') {b o : Nat} (h1 : A ≤ b) (h2 : b < B) : w'.cell? ⟨b, o, none⟩ = w.cell? ⟨b, o, none⟩ := World.cell?_of_block (w := w) (a := ⟨b, o, none⟩) (h b h1 h2)

theorem BytesAt.keep {w w' : World} {A B : Nat} {a : Option Addr} {n c : Nat} {bs : List Int} (h : BytesAt w A B a n c bs) (hk : Keeps A B w w') : BytesAt w' A B a n c bs := by
  obtain ⟨h1, h2, h3, h4, h5, h6⟩ := h
  refine ⟨h1, h2, h3, h4, fun hn => ?_, h6⟩
  obtain ⟨b, off, rfl, hlt, hc⟩ := h5 hn
  exact ⟨b, off, rfl, hlt, fun i hi => (hk.cell hlt.1 hlt.2).trans (hc i hi)⟩
theorem BytesAt.below {w w' : World} {A B : Nat} {a : Option Addr} {n c : Nat} {bs : List Int} (h : BytesAt w A B a n c bs) (hb : Below B w w') : BytesAt w' A B a n c bs := h.keep (.of_below hb)

theorem BytesAt.up {w : World} {A B A' B' : Nat} {a : Option Addr} {n c : Nat} {bs : List Int} (h : BytesAt w A B a n c bs) (hA : A' ≤ A) (hB : B ≤ B') : BytesAt w A' B' a n c bs := by
  obtain ⟨h1, h2, h3, h4, h5, h6⟩ := h
  refine ⟨h1, h2, h3, h4, fun hn => ?_, h6⟩
  obtain ⟨b, off, rfl, hlt, hc⟩ := h5 hn
  exact ⟨b, off, rfl, ⟨by omega, by omega⟩, hc⟩

/-- One file at an address: its name, then its bytes' slice. -/
def FileIs (w : World) (A B b o : Nat) (f : PF) : Prop :=
  w.cell? ⟨b, o, none⟩ = some (.string f.1) ∧ f.1.size ≤ maxLen ∧ ∃ a n c, w.cell? ⟨b, o + 1, none⟩ = some (.slice a n c) ∧ BytesAt w A B a n c f.2

def FilesAt (w : World) (A B : Nat) (a : Option Addr) (n c : Nat) (fs : List PF) : Prop :=
  fs.length = n ∧ n ≤ c ∧ c ≤ maxLen ∧ (0 < n → ∃ b off, a = some ⟨b, off, none⟩ ∧ (A ≤ b ∧ b < B) ∧ ∀ i, i < n → FileIs w A B b (off + i * 2) (fs.getD i (ByteArray.empty, [])))

def PendIs (w : World) (A B b o : Nat) (p : PP) : Prop :=
  w.cell? ⟨b, o, none⟩ = some (.string p.1) ∧ p.1.size ≤ maxLen ∧ w.cell? ⟨b, o + 1, none⟩ = some (.int .i64 p.2.1) ∧ (-9223372036854775808 ≤ p.2.1 ∧ p.2.1 ≤ 9223372036854775807) ∧ ∃ a n c, w.cell? ⟨b, o + 2, none⟩ = some (.slice a n c) ∧ BytesAt w A B a n c p.2.2

def PendsAt (w : World) (A B : Nat) (a : Option Addr) (n c : Nat) (ps : List PP) : Prop :=
  ps.length = n ∧ n ≤ c ∧ c ≤ maxLen ∧ (0 < n → ∃ b off, a = some ⟨b, off, none⟩ ∧ (A ≤ b ∧ b < B) ∧ ∀ i, i < n → PendIs w A B b (off + i * 3) (ps.getD i (ByteArray.empty, 0, [])))

theorem FileIs.keep {w w' : World} {A B b o : Nat} {f : PF} (h : FileIs w A B b o f) (hlt : A ≤ b ∧ b < B) (hk : Keeps A B w w') : FileIs w' A B b o f := by
  obtain ⟨h1, h2, a, n, c, h3, hz⟩ := h
  exact ⟨(hk.cell hlt.1 hlt.2).trans h1, h2, a, n, c, (hk.cell hlt.1 hlt.2).trans h3, hz.keep hk⟩
theorem FileIs.below {w w' : World} {A B b o : Nat} {f : PF} (h : FileIs w A B b o f) (hlt : A ≤ b ∧ b < B) (hb : Below B w w') : FileIs w' A B b o f := h.keep hlt (.of_below hb)
theorem FileIs.up {w : World} {A B A' B' b o : Nat} {f : PF} (h : FileIs w A B b o f) (hA : A' ≤ A) (hB : B ≤ B') : FileIs w A' B' b o f := by
  obtain ⟨h1, h2, a, n, c, h3, hz⟩ := h
  exact ⟨h1, h2, a, n, c, h3, hz.up hA hB⟩
theorem FilesAt.keep {w w' : World} {A B : Nat} {a : Option Addr} {n c : Nat} {fs : List PF} (h : FilesAt w A B a n c fs) (hk : Keeps A B w w') : FilesAt w' A B a n c fs := by
  obtain ⟨h1, h2, h3, h4⟩ := h
  refine ⟨h1, h2, h3, fun hn => ?_⟩
  obtain ⟨b, off, rfl, hlt, hc⟩ := h4 hn
  exact ⟨b, off, rfl, hlt, fun i hi => (hc i hi).keep hlt hk⟩
theorem FilesAt.below {w w' : World} {A B : Nat} {a : Option Addr} {n c : Nat} {fs : List PF} (h : FilesAt w A B a n c fs) (hb : Below B w w') : FilesAt w' A B a n c fs := h.keep (.of_below hb)
theorem FilesAt.up {w : World} {A B A' B' : Nat} {a : Option Addr} {n c : Nat} {fs : List PF} (h : FilesAt w A B a n c fs) (hA : A' ≤ A) (hB : B ≤ B') : FilesAt w A' B' a n c fs := by
  obtain ⟨h1, h2, h3, h4⟩ := h
  refine ⟨h1, h2, h3, fun hn => ?_⟩
  obtain ⟨b, off, rfl, hlt, hc⟩ := h4 hn
  exact ⟨b, off, rfl, ⟨by omega, by omega⟩, fun i hi => (hc i hi).up hA hB⟩
theorem PendIs.keep {w w' : World} {A B b o : Nat} {f : PP} (h : PendIs w A B b o f) (hlt : A ≤ b ∧ b < B) (hk : Keeps A B w w') : PendIs w' A B b o f := by
  obtain ⟨h1, h2, h3, h4, a, n, c, h5, hz⟩ := h
  exact ⟨(hk.cell hlt.1 hlt.2).trans h1, h2, (hk.cell hlt.1 hlt.2).trans h3, h4, a, n, c, (hk.cell hlt.1 hlt.2).trans h5, hz.keep hk⟩
theorem PendIs.below {w w' : World} {A B b o : Nat} {f : PP} (h : PendIs w A B b o f) (hlt : A ≤ b ∧ b < B) (hb : Below B w w') : PendIs w' A B b o f := h.keep hlt (.of_below hb)
theorem PendIs.up {w : World} {A B A' B' b o : Nat} {f : PP} (h : PendIs w A B b o f) (hA : A' ≤ A) (hB : B ≤ B') : PendIs w A' B' b o f := by
  obtain ⟨h1, h2, h3, h4, a, n, c, h5, hz⟩ := h
  exact ⟨h1, h2, h3, h4, a, n, c, h5, hz.up hA hB⟩
theorem PendsAt.keep {w w' : World} {A B : Nat} {a : Option Addr} {n c : Nat} {fs : List PP} (h : PendsAt w A B a n c fs) (hk : Keeps A B w w') : PendsAt w' A B a n c fs := by
  obtain ⟨h1, h2, h3, h4⟩ := h
  refine ⟨h1, h2, h3, fun hn => ?_⟩
  obtain ⟨b, off, rfl, hlt, hc⟩ := h4 hn
  exact ⟨b, off, rfl, hlt, fun i hi => (hc i hi).keep hlt hk⟩
theorem PendsAt.below {w w' : World} {A B : Nat} {a : Option Addr} {n c : Nat} {fs : List PP} (h : PendsAt w A B a n c fs) (hb : Below B w w') : PendsAt w' A B a n c fs := h.keep (.of_below hb)
theorem PendsAt.up {w : World} {A B A' B' : Nat} {a : Option Addr} {n c : Nat} {fs : List PP} (h : PendsAt w A B a n c fs) (hA : A' ≤ A) (hB : B ≤ B') : PendsAt w A' B' a n c fs := by
  obtain ⟨h1, h2, h3, h4⟩ := h
  refine ⟨h1, h2, h3, fun hn => ?_⟩
  obtain ⟨b, off, rfl, hlt, hc⟩ := h4 hn
  exact ⟨b, off, rfl, ⟨by omega, by omega⟩, fun i hi => (hc i hi).up hA hB⟩

theorem owns_below {w w' : World} {base e size : Nat} {v : Value} {n : Nat} {xs : List Value} (h : w.ownsRow base e size v n xs) (hb : Below w.heap.size w w') : w'.ownsRow base e size v n xs := by
  refine ⟨h.1, ?_⟩
  rcases h.2 with hn | ⟨g, cap, cur, rfl, hbg, hgg, rest⟩
  · exact .inl hn
  · refine .inr ⟨g, cap, cur, rfl, hbg, ?_, rest⟩
    rw [hb.block g (Array.getElem?_eq_some_iff.1 hgg).1]
    exact hgg

/-- What has been laid so far of a list of files of one's own: behind block g0 each has a block of its own for its bytes. -/
def GotFiles (w : World) (g0 : Nat) (xs : List Value) (fs : List PF) (k : Nat) : Prop :=
  ∀ j, j < k → (fs.getD j (ByteArray.empty, [])).1.size ≤ maxLen ∧ ∃ g m, xs[j * 2]? = some (.string (fs.getD j (ByteArray.empty, [])).1) ∧ xs[j * 2 + 1]? = some (.slice (some ⟨g, 0, none⟩) m m) ∧ BytesAt w (g0 + 1) w.heap.size (some ⟨g, 0, none⟩) m m (fs.getD j (ByteArray.empty, [])).2
def GotPends (w : World) (g0 : Nat) (xs : List Value) (fs : List PP) (k : Nat) : Prop :=
  ∀ j, j < k → (fs.getD j (ByteArray.empty, 0, [])).1.size ≤ maxLen ∧ (-9223372036854775808 ≤ (fs.getD j (ByteArray.empty, 0, [])).2.1 ∧ (fs.getD j (ByteArray.empty, 0, [])).2.1 ≤ 9223372036854775807) ∧ ∃ g m, xs[j * 3]? = some (.string (fs.getD j (ByteArray.empty, 0, [])).1) ∧ xs[j * 3 + 1]? = some (.int .i64 (fs.getD j (ByteArray.empty, 0, [])).2.1) ∧ xs[j * 3 + 2]? = some (.slice (some ⟨g, 0, none⟩) m m) ∧ BytesAt w (g0 + 1) w.heap.size (some ⟨g, 0, none⟩) m m (fs.getD j (ByteArray.empty, 0, [])).2.2
theorem GotFiles.below {w w' : World} {g0 : Nat} {xs : List Value} {fs : List PF} {k : Nat} (h : GotFiles w g0 xs fs k) (hb : Below w.heap.size w w') : GotFiles w' g0 xs fs k := by
  intro j hj
  obtain ⟨h0, g, m, h2, h3, h4⟩ := h j hj
  exact ⟨h0, g, m, h2, h3, (h4.below hb).up (Nat.le_refl _) hb.size⟩
theorem GotPends.below {w w' : World} {g0 : Nat} {xs : List Value} {fs : List PP} {k : Nat} (h : GotPends w g0 xs fs k) (hb : Below w.heap.size w w') : GotPends w' g0 xs fs k := by
  intro j hj
  obtain ⟨h0, h9, g, m, h2, h3, h4, h5⟩ := h j hj
  exact ⟨h0, h9, g, m, h2, h3, h4, (h5.below hb).up (Nat.le_refl _) hb.size⟩
theorem GotFiles.step {w : World} {g0 : Nat} {xs : List Value} {fs : List PF} {k n : Nat} {f : PF} {g m : Nat} (h : GotFiles w g0 xs fs k) (hk : k < n) (hx : xs.length = n * 2) (hf : f = fs.getD k (ByteArray.empty, [])) (hs : f.1.size ≤ maxLen) (hb : BytesAt w (g0 + 1) w.heap.size (some ⟨g, 0, none⟩) m m f.2) :
    GotFiles ((w.setCell ⟨g0, k * 2, none⟩ (.string f.1)).setCell ⟨g0, k * 2 + 1, none⟩ (.slice (some ⟨g, 0, none⟩) m m)) g0 ((xs.set (k * 2) (.string f.1)).set (k * 2 + 1) (.slice (some ⟨g, 0, none⟩) m m)) fs (k + 1) := by
  intro j hj
  by_cases hjk : j = k
  · subst hjk
    rw [← hf]
    refine ⟨hs, g, m, ?_, ?_, ?_⟩
    · rw [List.getElem?_set_ne (by omega), List.getElem?_set_self (by omega)]
    · rw [List.getElem?_set_self (by simp; omega)]
    · simpa using hb.keep (((Keeps.refl _ _ _).set (p := ⟨g0, j * 2, none⟩) (.inl (Nat.lt_succ_self _)) _).set (p := ⟨g0, j * 2 + 1, none⟩) (.inl (Nat.lt_succ_self _)) _)
  · obtain ⟨h0, g', m', h2, h3, h4⟩ := h j (by omega)
    refine ⟨h0, g', m', ?_, ?_, ?_⟩
    · rw [List.getElem?_set_ne (by omega), List.getElem?_set_ne (by omega)]; exact h2
    · rw [List.getElem?_set_ne (by omega), List.getElem?_set_ne (by omega)]; exact h3
    · simpa using h4.keep (((Keeps.refl _ _ _).set (p := ⟨g0, k * 2, none⟩) (.inl (Nat.lt_succ_self _)) _).set (p := ⟨g0, k * 2 + 1, none⟩) (.inl (Nat.lt_succ_self _)) _)
theorem GotPends.step {w : World} {g0 : Nat} {xs : List Value} {fs : List PP} {k n : Nat} {f : PP} {g m : Nat} (h : GotPends w g0 xs fs k) (hk : k < n) (hx : xs.length = n * 3) (hf : f = fs.getD k (ByteArray.empty, 0, [])) (hs : f.1.size ≤ maxLen) (hp : -9223372036854775808 ≤ f.2.1 ∧ f.2.1 ≤ 9223372036854775807) (hb : BytesAt w (g0 + 1) w.heap.size (some ⟨g, 0, none⟩) m m f.2.2) :
    GotPends (((w.setCell ⟨g0, k * 3, none⟩ (.string f.1)).setCell ⟨g0, k * 3 + 1, none⟩ (.int .i64 f.2.1)).setCell ⟨g0, k * 3 + 2, none⟩ (.slice (some ⟨g, 0, none⟩) m m)) g0 (((xs.set (k * 3) (.string f.1)).set (k * 3 + 1) (.int .i64 f.2.1)).set (k * 3 + 2) (.slice (some ⟨g, 0, none⟩) m m)) fs (k + 1) := by
  intro j hj
  by_cases hjk : j = k
  · subst hjk
    rw [← hf]
    refine ⟨hs, hp, g, m, ?_, ?_, ?_, ?_⟩
    · rw [List.getElem?_set_ne (by omega), List.getElem?_set_ne (by omega), List.getElem?_set_self (by omega)]
    · rw [List.getElem?_set_ne (by omega), List.getElem?_set_self (by simp; omega)]
    · rw [List.getElem?_set_self (by simp; omega)]
    · simpa using hb.keep ((((Keeps.refl _ _ _).set (p := ⟨g0, j * 3, none⟩) (.inl (Nat.lt_succ_self _)) _).set (p := ⟨g0, j * 3 + 1, none⟩) (.inl (Nat.lt_succ_self _)) _).set (p := ⟨g0, j * 3 + 2, none⟩) (.inl (Nat.lt_succ_self _)) _)
  · obtain ⟨h0, h9, g', m', h2, h3, h4, h5⟩ := h j (by omega)
    refine ⟨h0, h9, g', m', ?_, ?_, ?_, ?_⟩
    · rw [List.getElem?_set_ne (by omega), List.getElem?_set_ne (by omega), List.getElem?_set_ne (by omega)]; exact h2
    · rw [List.getElem?_set_ne (by omega), List.getElem?_set_ne (by omega), List.getElem?_set_ne (by omega)]; exact h3
    · rw [List.getElem?_set_ne (by omega), List.getElem?_set_ne (by omega), List.getElem?_set_ne (by omega)]; exact h4
    · simpa using h5.keep ((((Keeps.refl _ _ _).set (p := ⟨g0, k * 3, none⟩) (.inl (Nat.lt_succ_self _)) _).set (p := ⟨g0, k * 3 + 1, none⟩) (.inl (Nat.lt_succ_self _)) _).set (p := ⟨g0, k * 3 + 2, none⟩) (.inl (Nat.lt_succ_self _)) _)
theorem files_of_got {w : World} {base e g0 n : Nat} {xs : List Value} {fs : List PF} (h : w.ownsRow base e 2 (.slice (some ⟨g0, 0, none⟩) n n) n xs) (hl : fs.length = n) (hm : n ≤ maxLen) (hG : GotFiles w g0 xs fs n) : FilesAt w g0 w.heap.size (some ⟨g0, 0, none⟩) n n fs := by
  have hb := h.lt g0 rfl
  refine ⟨hl, Nat.le_refl _, hm, fun hn => ⟨g0, 0, rfl, ⟨Nat.le_refl _, hb.2⟩, fun i hi => ?_⟩⟩
  obtain ⟨h0, g, m, h2, h3, h4⟩ := hG i hi
  refine ⟨?_, h0, some ⟨g, 0, none⟩, m, m, ?_, h4.up (Nat.le_succ _) (Nat.le_refl _)⟩
  · rw [Nat.zero_add, h.cellAt (i * 2) (by omega), h2]
  · rw [Nat.zero_add, h.cellAt (i * 2 + 1) (by omega), h3]
theorem pends_of_got {w : World} {base e g0 n : Nat} {xs : List Value} {fs : List PP} (h : w.ownsRow base e 3 (.slice (some ⟨g0, 0, none⟩) n n) n xs) (hl : fs.length = n) (hm : n ≤ maxLen) (hG : GotPends w g0 xs fs n) : PendsAt w g0 w.heap.size (some ⟨g0, 0, none⟩) n n fs := by
  have hb := h.lt g0 rfl
  refine ⟨hl, Nat.le_refl _, hm, fun hn => ⟨g0, 0, rfl, ⟨Nat.le_refl _, hb.2⟩, fun i hi => ?_⟩⟩
  obtain ⟨h0, h9, g, m, h2, h3, h4, h5⟩ := hG i hi
  refine ⟨?_, h0, ?_, h9, some ⟨g, 0, none⟩, m, m, ?_, h5.up (Nat.le_succ _) (Nat.le_refl _)⟩
  · rw [Nat.zero_add, h.cellAt (i * 3) (by omega), h2]
  · rw [Nat.zero_add, h.cellAt (i * 3 + 1) (by omega), h3]
  · rw [Nat.zero_add, h.cellAt (i * 3 + 2) (by omega), h4]

/-- How much a disk weighs. -/
def wFile (f : PF) : Int := f.1.size + f.2.length
def wPend (p : PP) : Int := p.1.size + p.2.2.length
def wFiles : List PF → Int
  | [] => 0
  | f :: r => wFile f + wFiles r
def wPends : List PP → Int
  | [] => 0
  | f :: r => wPend f + wPends r
theorem wFiles_append (xs ys : List PF) : wFiles (xs ++ ys) = wFiles xs + wFiles ys := by
  induction xs with
  | nil => simp [wFiles]
  | cons x r ih => simp [wFiles, ih]; omega
theorem wPends_append (xs ys : List PP) : wPends (xs ++ ys) = wPends xs + wPends ys := by
  induction xs with
  | nil => simp [wPends]
  | cons x r ih => simp [wPends, ih]; omega
theorem wFiles_nonneg (xs : List PF) : 0 ≤ wFiles xs := by
  induction xs with
  | nil => simp [wFiles]
  | cons x r ih => simp [wFiles, wFile]; omega
theorem wPends_nonneg (xs : List PP) : 0 ≤ wPends xs := by
  induction xs with
  | nil => simp [wPends]
  | cons x r ih => simp [wPends, wPend]; omega
theorem take_snocD {α : Type} (l : List α) (k : Nat) (d : α) (h : k < l.length) : l.take (k + 1) = l.take k ++ [l.getD k d] := by
  rw [List.take_succ_eq_append_getElem h]; simp [List.getD, List.getElem?_eq_getElem h]
theorem ret_int {k : IntKind} {a b : Int} (h : a = b) : Ending.returned (.int k a) = .returned (.int k b) := by rw [h]

end Go.Proofs.Ytakdaandbdbdnaa
namespace Go.Proofs.Ytakdaandbdbdnaa
open Go.RowKit
set_option linter.unusedVariables false
set_option maxRecDepth 100000

theorem info_u8 : (Try.prog.info? 5).map (fun i => (i.zero, i.size, i.bytes)) = some (some (.int .u8 0), 1, 1) := by kernel_rfl
/-- What is owned and known cell by cell is bytes behind a slice. -/
theorem bytes_of_owns {w : World} {base e g n c : Nat} {xs : List Value} {bs : List Int} (h : w.ownsRow base e 1 (.slice (some ⟨g, 0, none⟩) n c) n xs) (hl : bs.length = n) (hx : ∀ j, j < n → xs[j]? = some (.int .u8 (bs.getD j 0))) (hw : ∀ x ∈ bs, 0 ≤ x ∧ x ≤ 255) : BytesAt w base w.heap.size (some ⟨g, 0, none⟩) n c bs := by
  have hb := h.lt g rfl
  have hc : n ≤ c ∧ c ≤ maxLen := by
    rcases h.2 with ⟨h', _⟩ | ⟨g', cap', cur, h', _, hg, h1, h2, _⟩
    · simp at h'
    · simp only [Value.slice.injEq, Option.some.injEq, Addr.mk.injEq, and_true, true_and] at h'
      obtain ⟨_, rfl⟩ := h'
      exact ⟨h1, h2⟩
  refine ⟨hl, hc.1, hc.2, hw, fun hn => ⟨g, 0, rfl, hb, fun i hi => ?_⟩, fun h => by cases h⟩
  rw [Nat.zero_add, h.cellAt i (by omega), hx i hi]

set_option maxHeartbeats 400000 in
theorem toByteS_any (a : Option Addr) (n c : Nat) (bs : List Int) (w : World) (A B : Nat) (hB : B ≤ w.heap.size) (h : BytesAt w A B a n c bs) (hn : n ≤ 1048576) :
    Calls Try.prog 105 #[.slice a n c] w fun e w' => ∃ g, w.heap.size ≤ g ∧ e = .returned (.slice (some ⟨g, 0, none⟩) n n) ∧ BytesAt w' w.heap.size w'.heap.size (some ⟨g, 0, none⟩) n n bs ∧ Below w.heap.size w w' := by
  obtain ⟨hl, hnc, hc, hw, hcell, _⟩ := h
  obtain ⟨i0, hi, hz0, hz1, hz2⟩ := info_parts info_u8
  go_enter Try.func105, Try.ntmps105
  go_wp2_with (at_make; refine wpList_make_full _ rfl _ _ 22 rfl w.heap.size 5 i0 (.int .u8 0) 1 Try.underlying22 hi hz0 hz1 .i64 .i64 n n n rfl rfl rfl rfl (by rw [hz2]; omega) (by unfold maxLen; omega) (Nat.le_refl _) ?_; intro w1 hown hgr)
  have hb1 : Below w.heap.size w w1 := (Below.refl _ _).grown hgr (Nat.le_refl _) (by simp)
  go_loopw [4] (fun i wr => ∃ k : Nat, k ≤ n ∧ i = .int .i64 k ∧ Below w.heap.size w wr ∧ ∃ xs, wr.ownsRow w.heap.size 5 1 (.slice (some ⟨w.heap.size, 0, none⟩) n n) n xs ∧ ∀ j, j < k → xs[j]? = some (.int .u8 (bs.getD j 0))) (fun i _ => n - (intOf i).toNat)
  case atStart => exact ⟨0, Nat.zero_le _, rfl, hb1, _, hown, fun j hj => absurd hj (Nat.not_lt_zero _)⟩
  case round =>
    clear hown hgr hb1
    obtain ⟨k, hk, rfl, hbel, xs, hown, hxs⟩ := hrel
    have HX : Hid (∀ j, j < k → xs[j]? = some (.int .u8 (bs.getD j 0))) := hxs
    clear hxs
    by_cases hlt : k < n
    · obtain ⟨b, off, rfl, hb, hcb⟩ := hcell (by omega)
      have e1 := (hbel.cell (p := ⟨b, off + k, none⟩) (by show b < _; omega)).trans (hcb k hlt)
      clear hcell hcb
      have hf := hown.frozenAt k
      have hxl := hown.1
      obtain ⟨u, hu⟩ : ∃ u, wr.cell? ⟨w.heap.size, k, none⟩ = some u := ⟨xs[k]'(by omega), by rw [hown.cellAt k (by omega)]; exact List.getElem?_eq_getElem _⟩
      have R := hown.stored k (.int .u8 (bs.getD k 0))
      have HR : Hid (∀ j, j < k + 1 → (xs.set k (.int .u8 (bs.getD k 0)))[j]? = some (.int .u8 (bs.getD j 0))) := by
        intro j hj
        by_cases hjk : j = k
        · subst hjk; rw [List.getElem?_set_self (by omega)]
        · rw [List.getElem?_set_ne (by omega)]; exact HX.out j (by omega)
      have hb2 := hbel.setCell (p := ⟨w.heap.size, k, none⟩) (Nat.le_refl _) (.int .u8 (bs.getD k 0))
      generalize bs.getD k 0 = x at e1 R HR hb2
      clear hown
      obtain ⟨R1, R2⟩ := R
      go_wp2
      go_roundw
      case rel => exact ⟨k + 1, by omega, by go_num, hb2, _, R1, HR.out⟩
      case measure => simp [intOf]; omega
    · go_wp2
      go_ret
      exact ⟨w.heap.size, Nat.le_refl _, rfl, bytes_of_owns hown hl (fun j hj => HX.out j (by omega)) hw, hbel⟩
set_option maxHeartbeats 400000 in
theorem eqByteS_same (a : Option Addr) (n c : Nat) (a2 : Option Addr) (c2 : Nat) (bs : List Int) (w : World) (A B A2 B2 : Nat) (h : BytesAt w A B a n c bs) (k : BytesAt w A2 B2 a2 n c2 bs) :
    Calls Try.prog 106 #[.slice a n c, .slice a2 n c2] w fun e w' => e = .returned (.bool true) ∧ ∃ m, w' = w.drewN m := by
  obtain ⟨hl, hnc, hc, _, hcell, _⟩ := h
  obtain ⟨_, _, _, _, kcell, _⟩ := k
  unfold maxLen at hc
  have hne : ((n : Int) != (n : Int)) = false := by simp
  go_enter Try.func106, Try.ntmps106
  go_wp2
  go_loopw [5] (fun i wr => ∃ k : Nat, k ≤ n ∧ i = .int .i64 k ∧ ∃ m, wr = w.drewN m) (fun i _ => n - (intOf i).toNat)
  case atStart => exact ⟨0, Nat.zero_le _, rfl, 0, rfl⟩
  case round =>
    obtain ⟨k, hk, rfl, m, rfl⟩ := hrel
    by_cases hlt : k < n
    · obtain ⟨b, off, rfl, hb, hcb⟩ := hcell (by omega)
      obtain ⟨b2, off2, rfl, hb2, hcb2⟩ := kcell (by omega)
      have e1 := hcb k hlt
      have e2 := hcb2 k hlt
      clear hcell kcell hcb hcb2
      generalize bs.getD k 0 = x at e1 e2
      have hx : (x != x) = false := by simp
      go_wp2
      go_quiet (fail)
      go_wp2
      go_roundw
      case rel => exact ⟨k + 1, by omega, by go_num, _, rfl⟩
      case measure => simp [intOf]; omega
    · go_wp2
      go_ret
      exact ⟨rfl, m, rfl⟩
def u8s (bs : List Int) : List Value := bs.map (Value.int .u8)
theorem own_shape {w : World} {base e size : Nat} {v : Value} {n : Nat} {xs : List Value} (h : w.ownsRow base e size v n xs) : ∃ a c, v = .slice a n c := by
  rcases h.2 with ⟨rfl, rfl⟩ | ⟨g, cap, cur, rfl, _⟩
  · exact ⟨none, 0, rfl⟩
  · exact ⟨_, _, rfl⟩
theorem bytesAt_of_own {w : World} {base : Nat} {v : Value} {bs : List Int} (h : w.ownsRow base 5 1 v bs.length (u8s bs)) (hw : ∀ x ∈ bs, 0 ≤ x ∧ x ≤ 255) : ∃ a n c, v = .slice a n c ∧ BytesAt w base w.heap.size a n c bs := by
  rcases h.2 with ⟨rfl, hn⟩ | ⟨g, cap, cur, rfl, hb, hg, h1, h2, _⟩
  · exact ⟨none, 0, 0, rfl, hn, Nat.le_refl _, Nat.zero_le _, hw, fun h => absurd h (Nat.lt_irrefl _), fun _ => rfl⟩
  · refine ⟨some ⟨g, 0, none⟩, bs.length, cap, rfl, bytes_of_owns h rfl (fun j hj => ?_) hw⟩
    simp [u8s, List.getElem?_eq_getElem hj]
/-- append to a slice of one's own, as one step of a region that draws. -/
theorem step_append_own {P : Program} {ops : Array Oper} {o : Oper} {a : Act} {w : World} {K : Act → World → Prop} {Q : Exit → Act → World → Prop} {E : Prop}
    (hgd : o.guard = none) (s x : Operand) (t : TypeId) (ho : o.op = .call { callee := .builtin .append, args := #[s, x], argTypes := #[t, t] })
    (base : Nat) (e : TypeId) (i : TypeInfo) (z : Value) (size bytes : Nat) (ht : P.underlying t = some (.slice e)) (hi : P.info? e = some i) (hz : i.zero = some z)
    (hsize : i.size = size) (hby : i.bytes = bytes) (hzs : z.cells.size = size) (hsz : 0 < size)
    (v : Value) (n : Nat) (xs : List Value) (hs : a.eval s = v) (hown : w.ownsRow base e size v n xs)
    (ad : Addr) (m c : Nat) (news : List Value) (hx : a.eval x = .slice (some ad) m c) (hl : news.length = m * size) (hnews : ∀ j u, news[j]? = some u → w.cell? (ad.add j) = some u) (h1 : ∀ u ∈ news, u.oneCell' = true)
    (h63 : n + m ≤ maxLen) (hbytes : (n + m) * bytes ≤ 140737488355328) (hbase : base ≤ w.heap.size)
    (h : ∀ v' w', w'.ownsRow base e size v' (n + m) (xs ++ news) → w.grownBy w' v.ownBlock → K (a.put o.dst v') w') :
    if Region.wanted o (yielded ops a.tmps) = true then Oper.wp P o a w K Q else E := by
  rw [if_pos (by simp [Region.wanted, hgd])]
  exact wp_append_own w s x t ho base e i z size bytes ht hi hz hsize hby hzs hsz v n xs hs hown ad m c news hx hl hnews h1 h63 hbytes hbase fun v' w' h2 h3 _ => h v' w' h2 h3

/-- Nothing but the blocks of S is written. -/
structure Fr (S : Nat → Prop) (w w' : World) : Prop where
  os : w'.os = w.os
  tape : w'.tape = w.tape
  output : w'.output = w.output
  size : w.heap.size ≤ w'.heap.size
  block : ∀ k, k < w.heap.size → ¬ S k → w'.heap[k]? = w.heap[k]?
theorem Fr.refl (S : Nat → Prop) (w : World) : Fr S w w := ⟨rfl, rfl, rfl, Nat.le_refl _, fun _ _ _ => rfl⟩
theorem Fr.trans {S : Nat → Prop} {a b c : World} (h : Fr S a b) (k : Fr S b c) : Fr S a c :=
  ⟨k.os.trans h.os, k.tape.trans h.tape, k.output.trans h.output, Nat.le_trans h.size k.size, fun i hi hn => (k.block i (Nat.lt_of_lt_of_le hi h.size) hn).trans (h.block i hi hn)⟩
theorem Fr.of_grown {S : Nat → Prop} {w w' : World} {row : Option Nat} (h : w.grownBy w' row) (hS : ∀ g, row = some g → S g) : Fr S w w' :=
  ⟨h.os, h.tape, h.output, h.size, fun k hk hn => h.block k hk (fun e => hn (hS k e.symm))⟩
theorem Fr.of_below {S : Nat → Prop} {w w' : World} (h : Below w.heap.size w w') : Fr S w w' :=
  ⟨h.os, h.tape, h.output, h.size, fun k hk _ => h.block k hk⟩
theorem Fr.weak {S T : Nat → Prop} {w w' : World} (h : Fr S w w') (hS : ∀ g, S g → T g) : Fr T w w' :=
  ⟨h.os, h.tape, h.output, h.size, fun k hk hn => h.block k hk (fun e => hn (hS k e))⟩
theorem Fr.below {S : Nat → Prop} {w w' : World} {B : Nat} (h : Fr S w w') (hB : B ≤ w.heap.size) (hS : ∀ g, S g → B ≤ g) : Below B w w' :=
  ⟨h.os, h.tape, h.output, h.size, fun k hk => h.block k (by omega) (fun e => by have := hS k e; omega)⟩
theorem owns_fr {S : Nat → Prop} {w w' : World} {base e size : Nat} {v : Value} {n : Nat} {xs : List Value} (h : w.ownsRow base e size v n xs) (hf : Fr S w w') (hS : ∀ g, v.ownBlock = some g → ¬ S g) : w'.ownsRow base e size v n xs := by
  refine ⟨h.1, ?_⟩
  rcases h.2 with hn | ⟨g, cap, cur, rfl, hb, hgg, rest⟩
  · exact .inl hn
  · refine .inr ⟨g, cap, cur, rfl, hb, ?_, rest⟩
    rw [hf.block g (Array.getElem?_eq_some_iff.1 hgg).1 (hS g rfl)]
    exact hgg
end Go.Proofs.Ytakdaandbdbdnaa
namespace Go.Proofs.Ytakdaandbdbdnaa
open Go.RowKit
set_option linter.unusedVariables false
set_option maxRecDepth 100000

/-- The decimal digits of k, ahead of out. -/
def digF : Nat → Nat → List UInt8 → List UInt8
  | 0, _, out => out
  | f + 1, k, out => if k = 0 then out else digF f (k / 10) (UInt8.ofNat (48 + k % 10) :: out)
def mkS (k : Nat) : ByteArray := if k = 0 then ⟨#[109, 48]⟩ else ⟨(109 :: digF 40 k []).toArray⟩

theorem glue (x y : List UInt8) : (⟨x.toArray⟩ : ByteArray) ++ (⟨y.toArray⟩ : ByteArray) = ⟨(x ++ y).toArray⟩ := by
  rw [ByteArray.mk_append_mk]
theorem digit_run (kk : Nat) (wr : World) : (convert 22 9 (.slice (some ⟨wr.heap.size, 0, none⟩) 1 1)).run Try.prog (wr.alloc (.cells #[.int .u8 (48 + (kk : Int) % 10)] 5)) = .ok (.string ⟨#[UInt8.ofNat (48 + kk % 10)]⟩) (wr.alloc (.cells #[.int .u8 (48 + (kk : Int) % 10)] 5)) := by
  refine run_convert_bytes_back (P := Try.prog) _ 22 9 5 ⟨wr.heap.size, 0, none⟩ 1 [UInt8.ofNat (48 + kk % 10)] Try.underlying22 Try.underlying5 Try.underlying9 ?_
  intro j hj
  simp at hj
  subst hj
  have e : (((UInt8.ofNat (48 + kk % 10)).toNat : Nat) : Int) = 48 + (kk : Int) % 10 := by
    rw [UInt8.toNat_ofNat']
    omega
  simp [Addr.add]
  omega

set_option maxHeartbeats 400000 in
theorem markText_any (k : Nat) (w : World) (hk : k ≤ 1099511627776) :
    Calls Try.prog 92 #[.int .i64 k] w fun e w' => e = .returned (.string (mkS k)) ∧ Below w.heap.size w w' := by
  by_cases h0 : k = 0
  · subst h0
    go_enter Try.func92, Try.ntmps92
    go_wp2
    go_ret
    exact ⟨rfl, Below.refl _ _⟩
  · go_enter Try.func92, Try.ntmps92
    go_wp2
    go_loopw [0, 3] (fun kv o wr => ∃ (kk f : Nat) (out : List UInt8), kv = .int .i64 kk ∧ kk ≤ 1099511627776 ∧ o = .string ⟨out.toArray⟩ ∧ Hid (digF 40 k [] = digF f kk out) ∧ Hid (kk < 10 ^ f) ∧ out.length ≤ 40 ∧ Hid (out.length + f = 40) ∧ Below w.heap.size w wr) (fun kv _ _ => (intOf kv).toNat)
    case atStart => exact ⟨k, 40, [], rfl, hk, rfl, rfl, by show _ < _; omega, by simp, by show _ = _; simp, Below.refl _ _⟩
    case round =>
      obtain ⟨kk, f, out, rfl, hkk, rfl, hd, hf, hol, hof, hbel⟩ := hrel
      by_cases hz : kk = 0
      · subst hz
        have HE : Hid ((⟨#[109]⟩ : ByteArray) ++ ⟨out.toArray⟩ = mkS k) := by
          show _ = _
          rw [show (⟨#[109]⟩ : ByteArray) = ⟨[109].toArray⟩ from rfl, glue]
          unfold mkS
          rw [if_neg h0, hd.out]
          cases f <;> simp [digF]
        go_wp2
        go_ret
        exact ⟨by rw [← HE.out]; rfl, hbel⟩
      · have hp : (0 : Int) < (kk : Int) := by omega
        have hrun := digit_run kk wr
        cases f with
        | zero => have := hf.out; simp at this; omega
        | succ f =>
          have HD : Hid (digF 40 k [] = digF f (kk / 10) (UInt8.ofNat (48 + kk % 10) :: out)) := by
            show _ = _
            rw [hd.out]
            simp [digF, hz]
          have HF : Hid (kk / 10 < 10 ^ f) := by
            have := hf.out
            show kk / 10 < 10 ^ f
            rw [Nat.div_lt_iff_lt_mul (by omega), ← Nat.pow_succ]
            exact this
          have HG : Hid ((⟨#[UInt8.ofNat (48 + kk % 10)]⟩ : ByteArray) ++ ⟨out.toArray⟩ = ⟨(UInt8.ofNat (48 + kk % 10) :: out).toArray⟩) := glue [UInt8.ofNat (48 + kk % 10)] out
          have hlen : out.length + 1 ≤ 40 := by have := hof.out; omega
          have hof2 : Hid ((UInt8.ofNat (48 + kk % 10) :: out).length + f = 40) := by show _ = _; have := hof.out; simp; omega
          have hb2 := hbel.alloc hbel.size (.cells #[.int .u8 (48 + (kk : Int) % 10)] 5)
          generalize UInt8.ofNat (48 + kk % 10) = dg at *
          go_wp2
          go_roundw
          case rel => exact ⟨kk / 10, f, dg :: out, by go_num, by omega, by rw [HG.out], HD, HF, by simpa using hlen, hof2, hb2⟩
          case measure => simp [intOf]; omega

/-- The marks that follow one another from k on. -/
def marks (k : Nat) (n : Nat) : List Int := (List.range n).map fun j => ((k + j : Nat) : Int) % 256
theorem marks_get (k n j : Nat) (h : j < n) : (marks k n).getD j 0 = ((k + j : Nat) : Int) % 256 := by simp [marks, List.getD, h]

set_option maxHeartbeats 400000 in
theorem heldByteS_any (a : Option Addr) (n c k : Nat) (w : World) (A B : Nat) (h : BytesAt w A B a n c (marks k n)) (hk : k + n ≤ 1099511627776) :
    Calls Try.prog 95 #[.slice a n c, .int .i64 k] w fun e w' => e = .returned (.int .i64 ((k + n : Nat) : Int)) ∧ w' = w := by
  obtain ⟨hl, hnc, hc, _, hcell, _⟩ := h
  go_enter Try.func95, Try.ntmps95
  go_wp2
  go_loop [1, 5] (fun kv i => ∃ j : Nat, j ≤ n ∧ i = .int .i64 j ∧ kv = .int .i64 ((k + j : Nat) : Int)) (fun _ i => n - (intOf i).toNat)
  case atStart => exact ⟨0, Nat.zero_le _, rfl, rfl⟩
  case round =>
    obtain ⟨j, hj, rfl, rfl⟩ := hrel
    by_cases hlt : j < n
    · obtain ⟨b, off, rfl, hb, hcb⟩ := hcell (by omega)
      have e1 := hcb j hlt
      rw [marks_get k n j hlt] at e1
      clear hcell hcb
      go_wp2
      go_round
      case rel => exact ⟨j + 1, by omega, by go_num, by go_num⟩
      case measure => simp [intOf]; omega
    · obtain rfl : j = n := by omega
      go_wp2
      go_ret
      exact ⟨rfl, rfl⟩
theorem grown_refl (w : World) (row : Option Nat) : w.grownBy w row := ⟨rfl, rfl, rfl, Nat.le_refl _, fun _ _ _ => rfl⟩
theorem grown_trans {a b c : World} {row : Option Nat} (h : a.grownBy b row) (k : b.grownBy c row) : a.grownBy c row :=
  ⟨k.os.trans h.os, k.tape.trans h.tape, k.output.trans h.output, Nat.le_trans h.size k.size, fun i hi hne => (k.block i (Nat.lt_of_lt_of_le hi h.size) hne).trans (h.block i hi hne)⟩
def MarkRes (w w' : World) (base : Nat) (v : Value) (n k : Nat) : Prop := w'.ownsRow base 5 1 v n (u8s (marks k n)) ∧ w.grownBy w' v.ownBlock

set_option maxHeartbeats 400000 in
theorem markByteS_any (a : Option Addr) (n c k base : Nat) (xs : List Value) (w : World) (h : w.ownsRow base 5 1 (.slice a n c) n xs) (hk : k + n ≤ 1099511627776) :
    Calls Try.prog 93 #[.slice a n c, .int .i64 k] w fun e w' => e = .returned (.int .i64 ((k + n : Nat) : Int)) ∧ MarkRes w w' base (.slice a n c) n k := by
  go_enter Try.func93, Try.ntmps93
  go_wp2
  go_loopw [1, 5] (fun kv i wr => ∃ (j : Nat) (ys : List Value), j ≤ n ∧ i = .int .i64 j ∧ kv = .int .i64 ((k + j : Nat) : Int) ∧ wr.ownsRow base 5 1 (.slice a n c) n ys ∧ Hid (∀ i, i < j → ys[i]? = some (.int .u8 (((k + i : Nat) : Int) % 256))) ∧ w.grownBy wr (Value.slice a n c).ownBlock) (fun _ i _ => n - (intOf i).toNat)
  case atStart => exact ⟨0, xs, Nat.zero_le _, rfl, rfl, h, fun i hi => absurd hi (Nat.not_lt_zero _), grown_refl _ _⟩
  case round =>
    clear h
    obtain ⟨j, ys, hj, rfl, rfl, hown, hys, hgr⟩ := hrel
    by_cases hlt : j < n
    · obtain ⟨g, rfl⟩ : ∃ g, a = some ⟨g, 0, none⟩ := by
        rcases hown.2 with ⟨_, h0⟩ | ⟨g, cap, cur, h0, _⟩
        · omega
        · injection h0 with h1; exact ⟨g, h1⟩
      have hf := hown.frozenAt j
      have hxl := hown.1
      obtain ⟨u, hu⟩ : ∃ u, wr.cell? ⟨g, j, none⟩ = some u := ⟨ys[j]'(by omega), by rw [hown.cellAt j (by omega)]; exact List.getElem?_eq_getElem _⟩
      obtain ⟨R1, R2⟩ := hown.stored j (.int .u8 (((k : Int) + (j : Int)) % 256))
      have HY : Hid (∀ i, i < j + 1 → (ys.set j (.int .u8 (((k : Int) + (j : Int)) % 256)))[i]? = some (.int .u8 (((k + i : Nat) : Int) % 256))) := by
        intro i hi
        by_cases hij : i = j
        · subst hij; rw [List.getElem?_set_self (by omega)]; simp
        · rw [List.getElem?_set_ne (by omega)]; exact hys.out i (by omega)
      have hgr2 : w.grownBy (wr.setCell ⟨g, j, none⟩ (.int .u8 (((k : Int) + (j : Int)) % 256))) (Value.slice (some ⟨g, 0, none⟩) n c).ownBlock := grown_trans hgr R2
      clear hown R2 hgr
      go_wp2
      go_roundw
      case rel => exact ⟨j + 1, _, by omega, by go_num, by go_num, R1, HY, hgr2⟩
      case measure => simp [intOf]; omega
    · obtain rfl : j = n := by omega
      have HR : Hid (wr.ownsRow base 5 1 (.slice a j c) j (u8s (marks k j))) := by
        have hxl := hown.1
        have e : ys = u8s (marks k j) := by
          apply List.ext_getElem?
          intro i
          by_cases hi : i < j
          · rw [hys.out i hi]; simp [u8s, marks, hi]
          · rw [List.getElem?_eq_none (by omega), List.getElem?_eq_none (by simp [u8s, marks]; omega)]
        rw [← e]; exact hown
      go_wp2
      go_ret
      exact ⟨rfl, HR.out, hgr⟩
theorem marks_byte (k n : Nat) : ∀ x ∈ marks k n, 0 ≤ x ∧ x ≤ 255 := by
  intro x hx
  simp [marks] at hx
  obtain ⟨a, _, rfl⟩ := hx
  omega
end Go.Proofs.Ytakdaandbdbdnaa
namespace Go.Proofs.Ytakdaandbdbdnaa
open Go.RowKit
set_option linter.unusedVariables false
set_option maxRecDepth 100000

/-- A name, as the document has it. -/
def okBytes (l : List UInt8) : Bool := l.all fun c => decide (97 ≤ c.toNat ∧ c.toNat ≤ 122)
def nameB (s : ByteArray) : Bool := decide (1 ≤ s.size) && decide (s.size ≤ 8) && okBytes s.data.toList
theorem okBytes_snoc (l : List UInt8) (c : UInt8) : okBytes (l ++ [c]) = (okBytes l && decide (97 ≤ c.toNat ∧ c.toNat ≤ 122)) := by simp [okBytes]
theorem okBytes_take_false (l : List UInt8) (k : Nat) (h : okBytes (l.take k) = false) : okBytes l = false := by
  cases hl : okBytes l
  · rfl
  · exfalso
    have : okBytes (l.take k) = true := by
      simp only [okBytes, List.all_eq_true] at hl ⊢
      exact fun x hx => hl x (List.mem_of_mem_take hx)
    rw [this] at h; cases h
theorem take_snocB (s : ByteArray) (k : Nat) (h : k < s.size) : s.data.toList.take (k + 1) = s.data.toList.take k ++ [s[k]] := by
  rw [List.take_succ_eq_append_getElem (by simpa using h)]; rfl
theorem name_long {s : ByteArray} (h : s.size < 1 ∨ 8 < s.size) : nameB s = false := by
  unfold nameB
  rcases h with h | h
  · simp [show ¬ 1 ≤ s.size by omega]
  · simp [show ¬ s.size ≤ 8 by omega]
theorem name_bad {s : ByteArray} {k : Nat} (hk : k < s.size) (h : ((s[k].toNat : Int) < 97) ∨ (122 : Int) < (s[k].toNat : Int)) : nameB s = false := by
  have h2 : okBytes (s.data.toList.take (k + 1)) = false := by
    rw [take_snocB s k hk, okBytes_snoc]
    rw [show decide (97 ≤ s[k].toNat ∧ s[k].toNat ≤ 122) = false by simp; omega]; simp
  unfold nameB
  rw [okBytes_take_false _ _ h2]; simp
theorem name_good {s : ByteArray} (h1 : 1 ≤ s.size) (h2 : s.size ≤ 8) (h : okBytes (s.data.toList.take s.size) = true) : nameB s = true := by
  unfold nameB
  rw [List.take_of_length_le (by simp)] at h
  simp [h1, h2, h]
theorem name_step {s : ByteArray} {k : Nat} (hk : k < s.size) (h : okBytes (s.data.toList.take k) = true) (h1 : (97 : Int) ≤ (s[k].toNat : Int)) (h2 : (s[k].toNat : Int) ≤ 122) : okBytes (s.data.toList.take (k + 1)) = true := by
  rw [take_snocB s k hk, okBytes_snoc, h]
  simp; omega
theorem bytes_ext {a b : ByteArray} (h : a.toList = b.toList) : a = b := by
  rw [ByteArray.toList_eq, ByteArray.toList_eq] at h
  cases a; cases b; simp at h; subst h; rfl
theorem same_no {a b : ByteArray} (h : a ≠ b) : (a.toList == b.toList) = false := by
  cases hb : (a.toList == b.toList)
  · rfl
  · exact absurd (bytes_ext (eq_of_beq hb)) h
theorem same_yes {a b : ByteArray} (h : a = b) : (a.toList == b.toList) = true := by subst h; simp

/-- Where a name stands among files: its number, or -1. -/
def findN (fs : List PF) (nm : ByteArray) : Nat := fs.findIdx (fun f => decide (f.1 = nm))
def findI (fs : List PF) (nm : ByteArray) : Int := if findN fs nm < fs.length then (findN fs nm : Int) else -1
theorem findI_none {fs : List PF} {nm : ByteArray} (h : ∀ j, j < fs.length → (fs.getD j (ByteArray.empty, [])).1 ≠ nm) : findI fs nm = -1 := by
  unfold findI
  rw [if_neg]
  intro hlt
  have h1 := h _ hlt
  unfold findN at h1 hlt
  have h2 := List.findIdx_getElem (w := hlt)
  simp only [List.getD, List.getElem?_eq_getElem hlt, Option.getD_some] at h1
  exact h1 (of_decide_eq_true h2)
theorem findN_at {fs : List PF} {nm : ByteArray} {k : Nat} (hk : k < fs.length) (h : ∀ j, j < k → (fs.getD j (ByteArray.empty, [])).1 ≠ nm) (h2 : (fs.getD k (ByteArray.empty, [])).1 = nm) : findN fs nm = k := by
  unfold findN
  rw [List.findIdx_eq hk]
  refine ⟨by simpa [List.getD, List.getElem?_eq_getElem hk] using h2, fun j hj => ?_⟩
  simpa [List.getD, List.getElem?_eq_getElem (show j < fs.length by omega)] using h j hj
theorem findI_at {fs : List PF} {nm : ByteArray} {k : Nat} (hk : k < fs.length) (h : ∀ j, j < k → (fs.getD j (ByteArray.empty, [])).1 ≠ nm) (h2 : (fs.getD k (ByteArray.empty, [])).1 = nm) : findI fs nm = k := by
  unfold findI
  rw [findN_at hk h h2, if_pos hk]
theorem findI_cases (fs : List PF) (nm : ByteArray) : (findI fs nm = -1 ∧ findN fs nm = fs.length) ∨ (findI fs nm = findN fs nm ∧ findN fs nm < fs.length) := by
  unfold findI
  have : findN fs nm ≤ fs.length := List.findIdx_le_length
  split
  · exact .inr ⟨rfl, by assumption⟩
  · exact .inl ⟨rfl, by omega⟩

/-- How many pages a file of this name has. -/
def lenI (fs : List PF) (nm : ByteArray) : Int := if findN fs nm < fs.length then ((fs.getD (findN fs nm) (ByteArray.empty, [])).2.length : Int) / 128 else 0
/-- The pages of all files. -/
def totalI : List PF → Int
  | [] => 0
  | f :: r => (f.2.length : Int) / 128 + totalI r
theorem totalI_append (xs ys : List PF) : totalI (xs ++ ys) = totalI xs + totalI ys := by
  induction xs with
  | nil => simp [totalI]
  | cons x r ih => simp [totalI, ih]; omega
theorem totalI_bd (xs : List PF) : 0 ≤ totalI xs ∧ totalI xs ≤ wFiles xs := by
  induction xs with
  | nil => simp [totalI, wFiles]
  | cons x r ih => simp [totalI, wFiles, wFile]; omega
theorem totalI_take_le (xs : List PF) (k : Nat) : totalI (xs.take k) ≤ totalI xs := by
  have h := totalI_append (xs.take k) (xs.drop k)
  rw [List.take_append_drop] at h
  have := (totalI_bd (xs.drop k)).1
  omega
theorem wFiles_take_le (xs : List PF) (k : Nat) : wFiles (xs.take k) ≤ wFiles xs := by
  have h := wFiles_append (xs.take k) (xs.drop k)
  rw [List.take_append_drop] at h
  have := wFiles_nonneg (xs.drop k)
  omega
theorem wFiles_get (xs : List PF) (k : Nat) (hk : k < xs.length) : ((xs.getD k (ByteArray.empty, [])).1.size : Int) + ((xs.getD k (ByteArray.empty, [])).2.length : Int) ≤ wFiles xs := by
  induction xs generalizing k with
  | nil => simp at hk
  | cons x r ih =>
    cases k with
    | zero => have := wFiles_nonneg r; simp [wFiles, wFile]; omega
    | succ k =>
      have h1 := ih k (by simpa using hk)
      simp only [wFiles, wFile]
      simp only [List.getD_cons_succ]
      omega
theorem wPends_get (xs : List PP) (k : Nat) (hk : k < xs.length) : ((xs.getD k (ByteArray.empty, 0, [])).1.size : Int) + ((xs.getD k (ByteArray.empty, 0, [])).2.2.length : Int) ≤ wPends xs := by
  induction xs generalizing k with
  | nil => simp at hk
  | cons x r ih =>
    cases k with
    | zero => have := wPends_nonneg r; simp [wPends, wPend]; omega
    | succ k =>
      have h1 := ih k (by simpa using hk)
      simp only [wPends, wPend]
      simp only [List.getD_cons_succ]
      omega
/-- 'a >= b' on names. -/
def geB (a b : ByteArray) : Bool := !Op.bytesLess a.toList b.toList
/-- One file of a list is as it should be. -/
def fileOk (fs : List PF) (i : Nat) : Bool :=
  nameB (fs.getD i (ByteArray.empty, [])).1 && !((fs.getD i (ByteArray.empty, [])).2.length == 0) && ((fs.getD i (ByteArray.empty, [])).2.length % 128 == 0) && !(decide (0 < i) && geB (fs.getD (i - 1) (ByteArray.empty, [])).1 (fs.getD i (ByteArray.empty, [])).1)
def filesOk (fs : List PF) : Bool := decide (∀ i, i < fs.length → fileOk fs i = true)
theorem filesOk_no {fs : List PF} {i : Nat} (hi : i < fs.length) (h : fileOk fs i = false) : filesOk fs = false := by
  unfold filesOk
  rw [decide_eq_false_iff_not]
  intro h2
  rw [h2 i hi] at h
  cases h
theorem filesOk_yes {fs : List PF} (h : ∀ i, i < fs.length → fileOk fs i = true) : filesOk fs = true := by
  unfold filesOk
  exact decide_eq_true h
end Go.Proofs.Ytakdaandbdbdnaa
