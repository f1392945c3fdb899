import Derived.WalkKit
import Derived.ProofKit
import Derived.OpenShut
import Derived.Below
namespace Go.Proofs.Ytmmdkjeoadlikaa
open Go.RowKit
set_option linter.unusedVariables false
set_option maxRecDepth 100000

/-- What stands below the old heap's end reads as it did. -/
theorem bcell {W w1 : World} (hb : Below W.heap.size W w1) : (∀ b o, b < W.heap.size → w1.cell? ⟨b, o, none⟩ = W.cell? ⟨b, o, none⟩) ∧ (∀ b o, b < W.heap.size → w1.frozen? ⟨b, o, none⟩ = W.frozen? ⟨b, o, none⟩) :=
  ⟨fun b o h => hb.cell (p := ⟨b, o, none⟩) h, fun b o h => hb.frozen (p := ⟨b, o, none⟩) h⟩

theorem lt_of_cell {w : World} {b o : Nat} {v : Value} (h : w.cell? ⟨b, o, none⟩ = some v) : b < w.heap.size := by
  by_cases hb : b < w.heap.size
  · exact hb
  · simp [World.cell?, Array.getElem?_eq_none (Nat.le_of_not_lt hb)] at h

/-- A file and a cached write as plain data. -/
abbrev PF := ByteArray × List Int
abbrev PP := ByteArray × Int × List Int

/-- The bytes behind a slice. -/
def BytesAt (w : World) (A B : Nat) (a : Option Addr) (n c : Nat) (bs : List Int) : Prop :=
  bs.length = n ∧ n ≤ c ∧ c ≤ maxLen ∧ (∀ x ∈ bs, 0 ≤ x ∧ x ≤ 255) ∧ (0 < n → ∃ b off, a = some ⟨b, off, none⟩ ∧ (A ≤ b ∧ b < B) ∧ ∀ i, i < n → w.cell? ⟨b, off + i, none⟩ = some (.int .u8 (bs.getD i 0))) ∧ (a = none → c = 0)

/-- The blocks from A to B are as they were. -/
def Keeps (A B : Nat) (w w' : World) : Prop := ∀ k, A ≤ k → k < B → w'.heap[k]? = w.heap[k]?
theorem Keeps.of_below {A B : Nat} {w w' : World} (h : Below B w w') : Keeps A B w w' := fun k _ hk => h.block k hk
theorem Keeps.refl (A B : Nat) (w : World) : Keeps A B w w := fun _ _ _ => rfl
theorem Keeps.set {A B : Nat} {w w' : World} (h : Keeps A B w w') {p : Addr} (hp : p.block < A ∨ B ≤ p.block) (u : Value) : Keeps A B w (w'.setCell p u) :=
  fun k h1 h2 => (Below.heap_setCell w' p u k (by omega)).trans (h k h1 h2)
theorem Keeps.trans {A B : Nat} {a b c : World} (h : Keeps A B a b) (k : Keeps A B b c) : Keeps A B a c := fun i h1 h2 => (k i h1 h2).trans (h i h1 h2)
theorem Keeps.mono {A B A' B' : Nat} {a b : World} (h : Keeps A B a b) (hA : A ≤ A') (hB : B' ≤ B) : Keeps A' B' a b := fun i h1 h2 => h i (by omega) (by omega)
theorem Keeps.cell {A B : Nat} {w w' : World} (h : Keeps A B w w') {b o : Nat} (h1 : A ≤ b) (h2 : b < B) : w'.cell? ⟨b, o, none⟩ = w.cell? ⟨b, o, none⟩ := World.cell?_of_block (w := w) (a := ⟨b, o, none⟩) (h b h1 h2)

theorem BytesAt.keep {w w' : World} {A B : Nat} {a : Option Addr} {n c : Nat} {bs : List Int} (h : BytesAt w A B a n c bs) (hk : Keeps A B w w') : BytesAt w' A B a n c bs := by
  obtain ⟨h1, h2, h3, h4, h5, h6⟩ := h
  refine ⟨h1, h2, h3, h4, fun hn => ?_, h6⟩
  obtain ⟨b, off, rfl, hlt, hc⟩ := h5 hn
  exact ⟨b, off, rfl, hlt, fun i hi => (hk.cell hlt.1 hlt.2).trans (hc i hi)⟩
theorem BytesAt.below {w w' : World} {A B : Nat} {a : Option Addr} {n c : Nat} {bs : List Int} (h : BytesAt w A B a n c bs) (hb : Below B w w') : BytesAt w' A B a n c bs := h.keep (.of_below hb)

theorem BytesAt.up {w : World} {A B A' B' : Nat} {a : Option Addr} {n c : Nat} {bs : List Int} (h : BytesAt w A B a n c bs) (hA : A' ≤ A) (hB : B ≤ B') : BytesAt w A' B' a n c bs := by
  obtain ⟨h1, h2, h3, h4, h5, h6⟩ := h
  refine ⟨h1, h2, h3, h4, fun hn => ?_, h6⟩
  obtain ⟨b, off, rfl, hlt, hc⟩ := h5 hn
  exact ⟨b, off, rfl, ⟨by omega, by omega⟩, hc⟩

/-- One file at an address: its name, then its bytes' slice. -/
def FileIs (w : World) (A B b o : Nat) (f : PF) : Prop :=
  w.cell? ⟨b, o, none⟩ = some (.string f.1) ∧ f.1.size ≤ maxLen ∧ ∃ a n c, w.cell? ⟨b, o + 1, none⟩ = some (.slice a n c) ∧ BytesAt w A B a n c f.2

def FilesAt (w : World) (A B : Nat) (a : Option Addr) (n c : Nat) (fs : List PF) : Prop :=
  fs.length = n ∧ n ≤ c ∧ c ≤ maxLen ∧ (0 < n → ∃ b off, a = some ⟨b, off, none⟩ ∧ (A ≤ b ∧ b < B) ∧ ∀ i, i < n → FileIs w A B b (off + i * 2) (fs.getD i (ByteArray.empty, [])))

def PendIs (w : World) (A B b o : Nat) (p : PP) : Prop :=
  w.cell? ⟨b, o, none⟩ = some (.string p.1) ∧ p.1.size ≤ maxLen ∧ w.cell? ⟨b, o + 1, none⟩ = some (.int .i64 p.2.1) ∧ (-9223372036854775808 ≤ p.2.1 ∧ p.2.1 ≤ 9223372036854775807) ∧ ∃ a n c, w.cell? ⟨b, o + 2, none⟩ = some (.slice a n c) ∧ BytesAt w A B a n c p.2.2

def PendsAt (w : World) (A B : Nat) (a : Option Addr) (n c : Nat) (ps : List PP) : Prop :=
  ps.length = n ∧ n ≤ c ∧ c ≤ maxLen ∧ (0 < n → ∃ b off, a = some ⟨b, off, none⟩ ∧ (A ≤ b ∧ b < B) ∧ ∀ i, i < n → PendIs w A B b (off + i * 3) (ps.getD i (ByteArray.empty, 0, [])))

theorem FileIs.keep {w w' : World} {A B b o : Nat} {f : PF} (h : FileIs w A B b o f) (hlt : A ≤ b ∧ b < B) (hk : Keeps A B w w') : FileIs w' A B b o f := by
  obtain ⟨h1, h2, a, n, c, h3, hz⟩ := h
  exact ⟨(hk.cell hlt.1 hlt.2).trans h1, h2, a, n, c, (hk.cell hlt.1 hlt.2).trans h3, hz.keep hk⟩
theorem FileIs.below {w w' : World} {A B b o : Nat} {f : PF} (h : FileIs w A B b o f) (hlt : A ≤ b ∧ b < B) (hb : Below B w w') : FileIs w' A B b o f := h.keep hlt (.of_below hb)
theorem FileIs.up {w : World} {A B A' B' b o : Nat} {f : PF} (h : FileIs w A B b o f) (hA : A' ≤ A) (hB : B ≤ B') : FileIs w A' B' b o f := by
  obtain ⟨h1, h2, a, n, c, h3, hz⟩ := h
  exact ⟨h1, h2, a, n, c, h3, hz.up hA hB⟩
theorem FilesAt.keep {w w' : World} {A B : Nat} {a : Option Addr} {n c : Nat} {fs : List PF} (h : FilesAt w A B a n c fs) (hk : Keeps A B w w') : FilesAt w' A B a n c fs := by
  obtain ⟨h1, h2, h3, h4⟩ := h
  refine ⟨h1, h2, h3, fun hn => ?_⟩
  obtain ⟨b, off, rfl, hlt, hc⟩ := h4 hn
  exact ⟨b, off, rfl, hlt, fun i hi => (hc i hi).keep hlt hk⟩
theorem FilesAt.below {w w' : World} {A B : Nat} {a : Option Addr} {n c : Nat} {fs : List PF} (h : FilesAt w A B a n c fs) (hb : Below B w w') : FilesAt w' A B a n c fs := h.keep (.of_below hb)
theorem FilesAt.up {w : World} {A B A' B' : Nat} {a : Option Addr} {n c : Nat} {fs : List PF} (h : FilesAt w A B a n c fs) (hA : A' ≤ A) (hB : B ≤ B') : FilesAt w A' B' a n c fs := by
  obtain ⟨h1, h2, h3, h4⟩ := h
  refine ⟨h1, h2, h3, fun hn => ?_⟩
  obtain ⟨b, off, rfl, hlt, hc⟩ := h4 hn
  exact ⟨b, off, rfl, ⟨by omega, by omega⟩, fun i hi => (hc i hi).up hA hB⟩
theorem PendIs.keep {w w' : World} {A B b o : Nat} {f : PP} (h : PendIs w A B b o f) (hlt : A ≤ b ∧ b < B) (hk : Keeps A B w w') : PendIs w' A B b o f := by
  obtain ⟨h1, h2, h3, h4, a, n, c, h5, hz⟩ := h
  exact ⟨(hk.cell hlt.1 hlt.2).trans h1, h2, (hk.cell hlt.1 hlt.2).trans h3, h4, a, n, c, (hk.cell hlt.1 hlt.2).trans h5, hz.keep hk⟩
theorem PendIs.below {w w' : World} {A B b o : Nat} {f : PP} (h : PendIs w A B b o f) (hlt : A ≤ b ∧ b < B) (hb : Below B w w') : PendIs w' A B b o f := h.keep hlt (.of_below hb)
theorem PendIs.up {w : World} {A B A' B' b o : Nat} {f : PP} (h : PendIs w A B b o f) (hA : A' ≤ A) (hB : B ≤ B') : PendIs w A' B' b o f := by
  obtain ⟨h1, h2, h3, h4, a, n, c, h5, hz⟩ := h
  exact ⟨h1, h2, h3, h4, a, n, c, h5, hz.up hA hB⟩
theorem PendsAt.keep {w w' : World} {A B : Nat} {a : Option Addr} {n c : Nat} {fs : List PP} (h : PendsAt w A B a n c fs) (hk : Keeps A B w w') : PendsAt w' A B a n c fs := by
  obtain ⟨h1, h2, h3, h4⟩ := h
  refine ⟨h1, h2, h3, fun hn => ?_⟩
  obtain ⟨b, off, rfl, hlt, hc⟩ := h4 hn
  exact ⟨b, off, rfl, hlt, fun i hi => (hc i hi).keep hlt hk⟩
theorem PendsAt.below {w w' : World} {A B : Nat} {a : Option Addr} {n c : Nat} {fs : List PP} (h : PendsAt w A B a n c fs) (hb : Below B w w') : PendsAt w' A B a n c fs := h.keep (.of_below hb)
theorem PendsAt.up {w : World} {A B A' B' : Nat} {a : Option Addr} {n c : Nat} {fs : List PP} (h : PendsAt w A B a n c fs) (hA : A' ≤ A) (hB : B ≤ B') : PendsAt w A' B' a n c fs := by
  obtain ⟨h1, h2, h3, h4⟩ := h
  refine ⟨h1, h2, h3, fun hn => ?_⟩
  obtain ⟨b, off, rfl, hlt, hc⟩ := h4 hn
  exact ⟨b, off, rfl, ⟨by omega, by omega⟩, fun i hi => (hc i hi).up hA hB⟩

theorem owns_below {w w' : World} {base e size : Nat} {v : Value} {n : Nat} {xs : List Value} (h : w.ownsRow base e size v n xs) (hb : Below w.heap.size w w') : w'.ownsRow base e size v n xs := by
  refine ⟨h.1, ?_⟩
  rcases h.2 with hn | ⟨g, cap, cur, rfl, hbg, hgg, rest⟩
  · exact .inl hn
  · refine .inr ⟨g, cap, cur, rfl, hbg, ?_, rest⟩
    rw [hb.block g (Array.getElem?_eq_some_iff.1 hgg).1]
    exact hgg

/-- What has been laid so far of a list of files of one's own: behind block g0 each has a block of its own for its bytes. -/
def GotFiles (w : World) (g0 : Nat) (xs : List Value) (fs : List PF) (k : Nat) : Prop :=
  ∀ j, j < k → (fs.getD j (ByteArray.empty, [])).1.size ≤ maxLen ∧ ∃ g m, xs[j * 2]? = some (.string (fs.getD j (ByteArray.empty, [])).1) ∧ xs[j * 2 + 1]? = some (.slice (some ⟨g, 0, none⟩) m m) ∧ BytesAt w (g0 + 1) w.heap.size (some ⟨g, 0, none⟩) m m (fs.getD j (ByteArray.empty, [])).2
def GotPends (w : World) (g0 : Nat) (xs : List Value) (fs : List PP) (k : Nat) : Prop :=
  ∀ j, j < k → (fs.getD j (ByteArray.empty, 0, [])).1.size ≤ maxLen ∧ (-9223372036854775808 ≤ (fs.getD j (ByteArray.empty, 0, [])).2.1 ∧ (fs.getD j (ByteArray.empty, 0, [])).2.1 ≤ 9223372036854775807) ∧ ∃ g m, xs[j * 3]? = some (.string (fs.getD j (ByteArray.empty, 0, [])).1) ∧ xs[j * 3 + 1]? = some (.int .i64 (fs.getD j (ByteArray.empty, 0, [])).2.1) ∧ xs[j * 3 + 2]? = some (.slice (some ⟨g, 0, none⟩) m m) ∧ BytesAt w (g0 + 1) w.heap.size (some ⟨g, 0, none⟩) m m (fs.getD j (ByteArray.empty, 0, [])).2.2
theorem GotFiles.below {w w' : World} {g0 : Nat} {xs : List Value} {fs : List PF} {k : Nat} (h : GotFiles w g0 xs fs k) (hb : Below w.heap.size w w') : GotFiles w' g0 xs fs k := by
  intro j hj
  obtain ⟨h0, g, m, h2, h3, h4⟩ := h j hj
  exact ⟨h0, g, m, h2, h3, (h4.below hb).up (Nat.le_refl _) hb.size⟩
theorem GotPends.below {w w' : World} {g0 : Nat} {xs : List Value} {fs : List PP} {k : Nat} (h : GotPends w g0 xs fs k) (hb : Below w.heap.size w w') : GotPends w' g0 xs fs k := by
  intro j hj
  obtain ⟨h0, h9, g, m, h2, h3, h4, h5⟩ := h j hj
  exact ⟨h0, h9, g, m, h2, h3, h4, (h5.below hb).up (Nat.le_refl _) hb.size⟩
theorem GotFiles.step {w : World} {g0 : Nat} {xs : List Value} {fs : List PF} {k n : Nat} {f : PF} {g m : Nat} (h : GotFiles w g0 xs fs k) (hk : k < n) (hx : xs.length = n * 2) (hf : f = fs.getD k (ByteArray.empty, [])) (hs : f.1.size ≤ maxLen) (hb : BytesAt w (g0 + 1) w.heap.size (some ⟨g, 0, none⟩) m m f.2) :
    GotFiles ((w.setCell ⟨g0, k * 2, none⟩ (.string f.1)).setCell ⟨g0, k * 2 + 1, none⟩ (.slice (some ⟨g, 0, none⟩) m m)) g0 ((xs.set (k * 2) (.string f.1)).set (k * 2 + 1) (.slice (some ⟨g, 0, none⟩) m m)) fs (k + 1) := by
  intro j hj
  by_cases hjk : j = k
  · subst hjk
    rw [← hf]
    refine ⟨hs, g, m, ?_, ?_, ?_⟩
    · rw [List.getElem?_set_ne (by omega), List.getElem?_set_self (by omega)]
    · rw [List.getElem?_set_self (by simp; omega)]
    · simpa using hb.keep (((Keeps.refl _ _ _).set (p := ⟨g0, j * 2, none⟩) (.inl (Nat.lt_succ_self _)) _).set (p := ⟨g0, j * 2 + 1, none⟩) (.inl (Nat.lt_succ_self _)) _)
  · obtain ⟨h0, g', m', h2, h3, h4⟩ := h j (by omega)
    refine ⟨h0, g', m', ?_, ?_, ?_⟩
    · rw [List.getElem?_set_ne (by omega), List.getElem?_set_ne (by omega)]; exact h2
    · rw [List.getElem?_set_ne (by omega), List.getElem?_set_ne (by omega)]; exact h3
    · simpa using h4.keep (((Keeps.refl _ _ _).set (p := ⟨g0, k * 2, none⟩) (.inl (Nat.lt_succ_self _)) _).set (p := ⟨g0, k * 2 + 1, none⟩) (.inl (Nat.lt_succ_self _)) _)
theorem GotPends.step {w : World} {g0 : Nat} {xs : List Value} {fs : List PP} {k n : Nat} {f : PP} {g m : Nat} (h : GotPends w g0 xs fs k) (hk : k < n) (hx : xs.length = n * 3) (hf : f = fs.getD k (ByteArray.empty, 0, [])) (hs : f.1.size ≤ maxLen) (hp : -9223372036854775808 ≤ f.2.1 ∧ f.2.1 ≤ 9223372036854775807) (hb : BytesAt w (g0 + 1) w.heap.size (some ⟨g, 0, none⟩) m m f.2.2) :
    GotPends (((w.setCell ⟨g0, k * 3, none⟩ (.string f.1)).setCell ⟨g0, k * 3 + 1, none⟩ (.int .i64 f.2.1)).setCell ⟨g0, k * 3 + 2, none⟩ (.slice (some ⟨g, 0, none⟩) m m)) g0 (((xs.set (k * 3) (.string f.1)).set (k * 3 + 1) (.int .i64 f.2.1)).set (k * 3 + 2) (.slice (some ⟨g, 0, none⟩) m m)) fs (k + 1) := by
  intro j hj
  by_cases hjk : j = k
  · subst hjk
    rw [← hf]
    refine ⟨hs, hp, g, m, ?_, ?_, ?_, ?_⟩
    · rw [List.getElem?_set_ne (by omega), List.getElem?_set_ne (by omega), List.getElem?_set_self (by omega)]
    · rw [List.getElem?_set_ne (by omega), List.getElem?_set_self (by simp; omega)]
    · rw [List.getElem?_set_self (by simp; omega)]
    · simpa using hb.keep ((((Keeps.refl _ _ _).set (p := ⟨g0, j * 3, none⟩) (.inl (Nat.lt_succ_self _)) _).set (p := ⟨g0, j * 3 + 1, none⟩) (.inl (Nat.lt_succ_self _)) _).set (p := ⟨g0, j * 3 + 2, none⟩) (.inl (Nat.lt_succ_self _)) _)
  · obtain ⟨h0, h9, g', m', h2, h3, h4, h5⟩ := h j (by omega)
    refine ⟨h0, h9, g', m', ?_, ?_, ?_, ?_⟩
    · rw [List.getElem?_set_ne (by omega), List.getElem?_set_ne (by omega), List.getElem?_set_ne (by omega)]; exact h2
    · rw [List.getElem?_set_ne (by omega), List.getElem?_set_ne (by omega), List.getElem?_set_ne (by omega)]; exact h3
    · rw [List.getElem?_set_ne (by omega), List.getElem?_set_ne (by omega), List.getElem?_set_ne (by omega)]; exact h4
    · simpa using h5.keep ((((Keeps.refl _ _ _).set (p := ⟨g0, k * 3, none⟩) (.inl (Nat.lt_succ_self _)) _).set (p := ⟨g0, k * 3 + 1, none⟩) (.inl (Nat.lt_succ_self _)) _).set (p := ⟨g0, k * 3 + 2, none⟩) (.inl (Nat.lt_succ_self _)) _)
theorem files_of_got {w : World} {base e g0 n : Nat} {xs : List Value} {fs : List PF} (h : w.ownsRow base e 2 (.slice (some ⟨g0, 0, none⟩) n n) n xs) (hl : fs.length = n) (hm : n ≤ maxLen) (hG : GotFiles w g0 xs fs n) : FilesAt w g0 w.heap.size (some ⟨g0, 0, none⟩) n n fs := by
  have hb := h.lt g0 rfl
  refine ⟨hl, Nat.le_refl _, hm, fun hn => ⟨g0, 0, rfl, ⟨Nat.le_refl _, hb.2⟩, fun i hi => ?_⟩⟩
  obtain ⟨h0, g, m, h2, h3, h4⟩ := hG i hi
  refine ⟨?_, h0, some ⟨g, 0, none⟩, m, m, ?_, h4.up (Nat.le_succ _) (Nat.le_refl _)⟩
  · rw [Nat.zero_add, h.cellAt (i * 2) (by omega), h2]
  · rw [Nat.zero_add, h.cellAt (i * 2 + 1) (by omega), h3]
theorem pends_of_got {w : World} {base e g0 n : Nat} {xs : List Value} {fs : List PP} (h : w.ownsRow base e 3 (.slice (some ⟨g0, 0, none⟩) n n) n xs) (hl : fs.length = n) (hm : n ≤ maxLen) (hG : GotPends w g0 xs fs n) : PendsAt w g0 w.heap.size (some ⟨g0, 0, none⟩) n n fs := by
  have hb := h.lt g0 rfl
  refine ⟨hl, Nat.le_refl _, hm, fun hn => ⟨g0, 0, rfl, ⟨Nat.le_refl _, hb.2⟩, fun i hi => ?_⟩⟩
  obtain ⟨h0, h9, g, m, h2, h3, h4, h5⟩ := hG i hi
  refine ⟨?_, h0, ?_, h9, some ⟨g, 0, none⟩, m, m, ?_, h5.up (Nat.le_succ _) (Nat.le_refl _)⟩
  · rw [Nat.zero_add, h.cellAt (i * 3) (by omega), h2]
  · rw [Nat.zero_add, h.cellAt (i * 3 + 1) (by omega), h3]
  · rw [Nat.zero_add, h.cellAt (i * 3 + 2) (by omega), h4]

/-- How much a disk weighs. -/
def wFile (f : PF) : Int := f.1.size + f.2.length
def wPend (p : PP) : Int := p.1.size + p.2.2.length
def wFiles : List PF → Int
  | [] => 0
  | f :: r => wFile f + wFiles r
def wPends : List PP → Int
  | [] => 0
  | f :: r => wPend f + wPends r
theorem wFiles_append (xs ys : List PF) : wFiles (xs ++ ys) = wFiles xs + wFiles ys := by
  induction xs with
  | nil => simp [wFiles]
  | cons x r ih => simp [wFiles, ih]; omega
theorem wPends_append (xs ys : List PP) : wPends (xs ++ ys) = wPends xs + wPends ys := by
  induction xs with
  | nil => simp [wPends]
  | cons x r ih => simp [wPends, ih]; omega
theorem wFiles_nonneg (xs : List PF) : 0 ≤ wFiles xs := by
  induction xs with
  | nil => simp [wFiles]
  | cons x r ih => simp [wFiles, wFile]; omega
theorem wPends_nonneg (xs : List PP) : 0 ≤ wPends xs := by
  induction xs with
  | nil => simp [wPends]
  | cons x r ih => simp [wPends, wPend]; omega
theorem take_snocD {α : Type} (l : List α) (k : Nat) (d : α) (h : k < l.length) : l.take (k + 1) = l.take k ++ [l.getD k d] := by
  rw [List.take_succ_eq_append_getElem h]; simp [List.getD, List.getElem?_eq_getElem h]
theorem ret_int {k : IntKind} {a b : Int} (h : a = b) : Ending.returned (.int k a) = .returned (.int k b) := by rw [h]

end Go.Proofs.Ytmmdkjeoadlikaa
