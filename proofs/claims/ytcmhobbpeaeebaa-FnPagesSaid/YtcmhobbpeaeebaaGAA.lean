import Derived.WalkKit
import Derived.ProofKit
import Derived.OpenShut
import Derived.Below
import Derived.Test.YtcmhobbpeaeebaaChecked
import Derived.OwnWalk
import Derived.Deep.QuietTactic
import Derived.BigQuiet
import Derived.Deep.RegionWith
import Derived.Laws.AppendOwnNone
import Derived.Deep.RegionLaw
import Derived.Deep.RegionHeld3
import Derived.Lib.AppendStr
import Derived.Laws.BitsAll
import Derived.Laws.IdiomStrings
namespace Go.Proofs.Ytcmhobbpeaeebaa
open Go.RowKit
set_option linter.unusedVariables false
set_option maxRecDepth 100000

/-- What stands below the old heap's end reads as it did. -/
theorem bcell {W w1 : World} (hb : Below W.heap.size W w1) : (∀ b o, b < W.heap.size → w1.cell? ⟨b, o, none⟩ = W.cell? ⟨b, o, none⟩) ∧ (∀ b o, b < W.heap.size → w1.frozen? ⟨b, o, none⟩ = W.frozen? ⟨b, o, none⟩) :=
  ⟨fun b o h => hb.cell (p := ⟨b, o, none⟩) h, fun b o h => hb.frozen (p := ⟨b, o, none⟩) h⟩

theorem lt_of_cell {w : World} {b o : Nat} {v : Value} (h : w.cell? ⟨b, o, none⟩ = some v) : b < w.heap.size := by
  by_cases hb : b < w.heap.size
  · exact hb
  · simp [World.cell?, Array.getElem?_eq_none (Nat.le_of_not_lt hb)] at h

/-- A file and a cached write as plain data. -/
abbrev PF := ByteArray × List Int
abbrev PP := ByteArray × Int × List Int

/-- The bytes behind a slice. -/
def BytesAt (w : World) (A B : Nat) (a : Option Addr) (n c : Nat) (bs : List Int) : Prop :=
  bs.length = n ∧ n ≤ c ∧ c ≤ maxLen ∧ (∀ x ∈ bs, 0 ≤ x ∧ x ≤ 255) ∧ (0 < n → ∃ b off, a = some ⟨b, off, none⟩ ∧ (A ≤ b ∧ b < B) ∧ ∀ i, i < n → w.cell? ⟨b, off + i, none⟩ = some (.int .u8 (bs.getD i 0))) ∧ (a = none → c = 0)

/-- The blocks from A to B are as they were. -/
def Keeps (A B : Nat) (w w' : World) : Prop := ∀ k, A ≤ k → k < B → w'.heap[k]? = w.heap[k]?
theorem Keeps.of_below {A B : Nat} {w w' : World} (h : Below B w w') : Keeps A B w w' := fun k _ hk => h.block k hk
theorem Keeps.refl (A B : Nat) (w : World) : Keeps A B w w := fun _ _ _ => rfl
theorem Keeps.set {A B : Nat} {w w' : World} (h : Keeps A B w w') {p : Addr} (hp : p.block < A ∨ B ≤ p.block) (u : Value) : Keeps A B w (w'.setCell p u) :=
  fun k h1 h2 => (Below.heap_setCell w' p u k (by omega)).trans (h k h1 h2)
theorem Keeps.trans {A B : Nat} {a b c : World} (h : Keeps A B a b) (k : Keeps A B b c) : Keeps A B a c := fun i h1 h2 => (k i h1 h2).trans (h i h1 h2)
theorem Keeps.mono {A B A' B' : Nat} {a b : World} (h : Keeps A B a b) (hA : A ≤ A') (hB : B' ≤ B) : Keeps A' B' a b := fun i h1 h2 => h i (by omega) (by omega)
theorem Keeps.cell {A B : Nat} {w w' : World} (h : Keeps A B w w') {b o : Nat} (h1 : A ≤ b) (h2 : b < B) : w'.cell? ⟨b, o, none⟩ = w.cell? ⟨b, o, none⟩ := World.cell?_of_block (w := w) (a := ⟨b, o, none⟩) (h b h1 h2)

theorem BytesAt.keep {w w' : World} {A B : Nat} {a : Option Addr} {n c : Nat} {bs : List Int} (h : BytesAt w A B a n c bs) (hk : Keeps A B w w') : BytesAt w' A B a n c bs := by
  obtain ⟨h1, h2, h3, h4, h5, h6⟩ := h
  refine ⟨h1, h2, h3, h4, fun hn => ?_, h6⟩
  obtain ⟨b, off, rfl, hlt, hc⟩ := h5 hn
  exact ⟨b, off, rfl, hlt, fun i hi => (hk.cell hlt.1 hlt.2).trans (hc i hi)⟩
theorem BytesAt.below {w w' : World} {A B : Nat} {a : Option Addr} {n c : Nat} {bs : List Int} (h : BytesAt w A B a n c bs) (hb : Below B w w') : BytesAt w' A B a n c bs := h.keep (.of_below hb)

theorem BytesAt.up {w : World} {A B A' B' : Nat} {a : Option Addr} {n c : Nat} {bs : List Int} (h : BytesAt w A B a n c bs) (hA : A' ≤ A) (hB : B ≤ B') : BytesAt w A' B' a n c bs := by
  obtain ⟨h1, h2, h3, h4, h5, h6⟩ := h
  refine ⟨h1, h2, h3, h4, fun hn => ?_, h6⟩
  obtain ⟨b, off, rfl, hlt, hc⟩ := h5 hn
  exact ⟨b, off, rfl, ⟨by omega, by omega⟩, hc⟩

/-- One file at an address: its name, then its bytes' slice. -/
def FileIs (w : World) (A B b o : Nat) (f : PF) : Prop :=
  w.cell? ⟨b, o, none⟩ = some (.string f.1) ∧ f.1.size ≤ maxLen ∧ ∃ a n c, w.cell? ⟨b, o + 1, none⟩ = some (.slice a n c) ∧ BytesAt w A B a n c f.2

def FilesAt (w : World) (A B : Nat) (a : Option Addr) (n c : Nat) (fs : List PF) : Prop :=
  fs.length = n ∧ n ≤ c ∧ c ≤ maxLen ∧ (0 < n → ∃ b off, a = some ⟨b, off, none⟩ ∧ (A ≤ b ∧ b < B) ∧ ∀ i, i < n → FileIs w A B b (off + i * 2) (fs.getD i (ByteArray.empty, [])))

def PendIs (w : World) (A B b o : Nat) (p : PP) : Prop :=
  w.cell? ⟨b, o, none⟩ = some (.string p.1) ∧ p.1.size ≤ maxLen ∧ w.cell? ⟨b, o + 1, none⟩ = some (.int .i64 p.2.1) ∧ (-9223372036854775808 ≤ p.2.1 ∧ p.2.1 ≤ 9223372036854775807) ∧ ∃ a n c, w.cell? ⟨b, o + 2, none⟩ = some (.slice a n c) ∧ BytesAt w A B a n c p.2.2

def PendsAt (w : World) (A B : Nat) (a : Option Addr) (n c : Nat) (ps : List PP) : Prop :=
  ps.length = n ∧ n ≤ c ∧ c ≤ maxLen ∧ (0 < n → ∃ b off, a = some ⟨b, off, none⟩ ∧ (A ≤ b ∧ b < B) ∧ ∀ i, i < n → PendIs w A B b (off + i * 3) (ps.getD i (ByteArray.empty, 0, [])))

theorem FileIs.keep {w w' : World} {A B b o : Nat} {f : PF} (h : FileIs w A B b o f) (hlt : A ≤ b ∧ b < B) (hk : Keeps A B w w') : FileIs w' A B b o f := by
  obtain ⟨h1, h2, a, n, c, h3, hz⟩ := h
  exact ⟨(hk.cell hlt.1 hlt.2).trans h1, h2, a, n, c, (hk.cell hlt.1 hlt.2).trans h3, hz.keep hk⟩
theorem FileIs.below {w w' : World} {A B b o : Nat} {f : PF} (h : FileIs w A B b o f) (hlt : A ≤ b ∧ b < B) (hb : Below B w w') : FileIs w' A B b o f := h.keep hlt (.of_below hb)
theorem FileIs.up {w : World} {A B A' B' b o : Nat} {f : PF} (h : FileIs w A B b o f) (hA : A' ≤ A) (hB : B ≤ B') : FileIs w A' B' b o f := by
  obtain ⟨h1, h2, a, n, c, h3, hz⟩ := h
  exact ⟨h1, h2, a, n, c, h3, hz.up hA hB⟩
theorem FilesAt.keep {w w' : World} {A B : Nat} {a : Option Addr} {n c : Nat} {fs : List PF} (h : FilesAt w A B a n c fs) (hk : Keeps A B w w') : FilesAt w' A B a n c fs := by
  obtain ⟨h1, h2, h3, h4⟩ := h
  refine ⟨h1, h2, h3, fun hn => ?_⟩
  obtain ⟨b, off, rfl, hlt, hc⟩ := h4 hn
  exact ⟨b, off, rfl, hlt, fun i hi => (hc i hi).keep hlt hk⟩
theorem FilesAt.below {w w' : World} {A B : Nat} {a : Option Addr} {n c : Nat} {fs : List PF} (h : FilesAt w A B a n c fs) (hb : Below B w w') : FilesAt w' A B a n c fs := h.keep (.of_below hb)
theorem FilesAt.up {w : World} {A B A' B' : Nat} {a : Option Addr} {n c : Nat} {fs : List PF} (h : FilesAt w A B a n c fs) (hA : A' ≤ A) (hB : B ≤ B') : FilesAt w A' B' a n c fs := by
  obtain ⟨h1, h2, h3, h4⟩ := h
  refine ⟨h1, h2, h3, fun hn => ?_⟩
  obtain ⟨b, off, rfl, hlt, hc⟩ := h4 hn
  exact ⟨b, off, rfl, ⟨by omega, by omega⟩, fun i hi => (hc i hi).up hA hB⟩
theorem PendIs.keep {w w' : World} {A B b o : Nat} {f : PP} (h : PendIs w A B b o f) (hlt : A ≤ b ∧ b < B) (hk : Keeps A B w w') : PendIs w' A B b o f := by
  obtain ⟨h1, h2, h3, h4, a, n, c, h5, hz⟩ := h
  exact ⟨(hk.cell hlt.1 hlt.2).trans h1, h2, (hk.cell hlt.1 hlt.2).trans h3, h4, a, n, c, (hk.cell hlt.1 hlt.2).trans h5, hz.keep hk⟩
theorem PendIs.below {w w' : World} {A B b o : Nat} {f : PP} (h : PendIs w A B b o f) (hlt : A ≤ b ∧ b < B) (hb : Below B w w') : PendIs w' A B b o f := h.keep hlt (.of_below hb)
theorem PendIs.up {w : World} {A B A' B' b o : Nat} {f : PP} (h : PendIs w A B b o f) (hA : A' ≤ A) (hB : B ≤ B') : PendIs w A' B' b o f := by
  obtain ⟨h1, h2, h3, h4, a, n, c, h5, hz⟩ := h
  exact ⟨h1, h2, h3, h4, a, n, c, h5, hz.up hA hB⟩
theorem PendsAt.keep {w w' : World} {A B : Nat} {a : Option Addr} {n c : Nat} {fs : List PP} (h : PendsAt w A B a n c fs) (hk : Keeps A B w w') : PendsAt w' A B a n c fs := by
  obtain ⟨h1, h2, h3, h4⟩ := h
  refine ⟨h1, h2, h3, fun hn => ?_⟩
  obtain ⟨b, off, rfl, hlt, hc⟩ := h4 hn
  exact ⟨b, off, rfl, hlt, fun i hi => (hc i hi).keep hlt hk⟩
theorem PendsAt.below {w w' : World} {A B : Nat} {a : Option Addr} {n c : Nat} {fs : List PP} (h : PendsAt w A B a n c fs) (hb : Below B w w') : PendsAt w' A B a n c fs := h.keep (.of_below hb)
theorem PendsAt.up {w : World} {A B A' B' : Nat} {a : Option Addr} {n c : Nat} {fs : List PP} (h : PendsAt w A B a n c fs) (hA : A' ≤ A) (hB : B ≤ B') : PendsAt w A' B' a n c fs := by
  obtain ⟨h1, h2, h3, h4⟩ := h
  refine ⟨h1, h2, h3, fun hn => ?_⟩
  obtain ⟨b, off, rfl, hlt, hc⟩ := h4 hn
  exact ⟨b, off, rfl, ⟨by omega, by omega⟩, fun i hi => (hc i hi).up hA hB⟩

theorem owns_below {w w' : World} {base e size : Nat} {v : Value} {n : Nat} {xs : List Value} (h : w.ownsRow base e size v n xs) (hb : Below w.heap.size w w') : w'.ownsRow base e size v n xs := by
  refine ⟨h.1, ?_⟩
  rcases h.2 with hn | ⟨g, cap, cur, rfl, hbg, hgg, rest⟩
  · exact .inl hn
  · refine .inr ⟨g, cap, cur, rfl, hbg, ?_, rest⟩
    rw [hb.block g (Array.getElem?_eq_some_iff.1 hgg).1]
    exact hgg

/-- What has been laid so far of a list of files of one's own: behind block g0 each has a block of its own for its bytes. -/
def GotFiles (w : World) (g0 : Nat) (xs : List Value) (fs : List PF) (k : Nat) : Prop :=
  ∀ j, j < k → (fs.getD j (ByteArray.empty, [])).1.size ≤ maxLen ∧ ∃ g m, xs[j * 2]? = some (.string (fs.getD j (ByteArray.empty, [])).1) ∧ xs[j * 2 + 1]? = some (.slice (some ⟨g, 0, none⟩) m m) ∧ BytesAt w (g0 + 1) w.heap.size (some ⟨g, 0, none⟩) m m (fs.getD j (ByteArray.empty, [])).2
def GotPends (w : World) (g0 : Nat) (xs : List Value) (fs : List PP) (k : Nat) : Prop :=
  ∀ j, j < k → (fs.getD j (ByteArray.empty, 0, [])).1.size ≤ maxLen ∧ (-9223372036854775808 ≤ (fs.getD j (ByteArray.empty, 0, [])).2.1 ∧ (fs.getD j (ByteArray.empty, 0, [])).2.1 ≤ 9223372036854775807) ∧ ∃ g m, xs[j * 3]? = some (.string (fs.getD j (ByteArray.empty, 0, [])).1) ∧ xs[j * 3 + 1]? = some (.int .i64 (fs.getD j (ByteArray.empty, 0, [])).2.1) ∧ xs[j * 3 + 2]? = some (.slice (some ⟨g, 0, none⟩) m m) ∧ BytesAt w (g0 + 1) w.heap.size (some ⟨g, 0, none⟩) m m (fs.getD j (ByteArray.empty, 0, [])).2.2
theorem GotFiles.below {w w' : World} {g0 : Nat} {xs : List Value} {fs : List PF} {k : Nat} (h : GotFiles w g0 xs fs k) (hb : Below w.heap.size w w') : GotFiles w' g0 xs fs k := by
  intro j hj
  obtain ⟨h0, g, m, h2, h3, h4⟩ := h j hj
  exact ⟨h0, g, m, h2, h3, (h4.below hb).up (Nat.le_refl _) hb.size⟩
theorem GotPends.below {w w' : World} {g0 : Nat} {xs : List Value} {fs : List PP} {k : Nat} (h : GotPends w g0 xs fs k) (hb : Below w.heap.size w w') : GotPends w' g0 xs fs k := by
  intro j hj
  obtain ⟨h0, h9, g, m, h2, h3, h4, h5⟩ := h j hj
  exact ⟨h0, h9, g, m, h2, h3, h4, (h5.below hb).up (Nat.le_refl _) hb.size⟩
theorem GotFiles.step {w : World} {g0 : Nat} {xs : List Value} {fs : List PF} {k n : Nat} {f : PF} {g m : Nat} (h : GotFiles w g0 xs fs k) (hk : k < n) (hx : xs.length = n * 2) (hf : f = fs.getD k (ByteArray.empty, [])) (hs : f.1.size ≤ maxLen) (hb : BytesAt w (g0 + 1) w.heap.size (some ⟨g, 0, none⟩) m m f.2) :
    GotFiles ((w.setCell ⟨g0, k * 2, none⟩ (.string f.1)).setCell ⟨g0, k * 2 + 1, none⟩ (.slice (some ⟨g, 0, none⟩) m m)) g0 ((xs.set (k * 2) (.string f.1)).set (k * 2 + 1) (.slice (some ⟨g, 0, none⟩) m m)) fs (k + 1) := by
  intro j hj
  by_cases hjk : j = k
  · subst hjk
    rw [← hf]
    refine ⟨hs, g, m, ?_, ?_, ?_⟩
    · rw [List.getElem?_set_ne (by omega), List.getElem?_set_self (by omega)]
    · rw [List.getElem?_set_self (by simp; omega)]
    · simpa using hb.keep (((Keeps.refl _ _ _).set (p := ⟨g0, j * 2, none⟩) (.inl (Nat.lt_succ_self _)) _).set (p := ⟨g0, j * 2 + 1, none⟩) (.inl (Nat.lt_succ_self _)) _)
  · obtain ⟨h0, g', m', h2, h3, h4⟩ := h j (by omega)
    refine ⟨h0, g', m', ?_, ?_, ?_⟩
    · rw [List.getElem?_set_ne (by omega), List.getElem?_set_ne (by omega)]; exact h2
    · rw [List.getElem?_set_ne (by omega), List.getElem?_set_ne (by omega)]; exact h3
    · simpa using h4.keep (((Keeps.refl _ _ _).set (p := ⟨g0, k * 2, none⟩) (.inl (Nat.lt_succ_self _)) _).set (p := ⟨g0, k * 2 + 1, none⟩) (.inl (Nat.lt_succ_self _)) _)
theorem GotPends.step {w : World} {g0 : Nat} {xs : List Value} {fs : List PP} {k n : Nat} {f : PP} {g m : Nat} (h : GotPends w g0 xs fs k) (hk : k < n) (hx : xs.length = n * 3) (hf : f = fs.getD k (ByteArray.empty, 0, [])) (hs : f.1.size ≤ maxLen) (hp : -9223372036854775808 ≤ f.2.1 ∧ f.2.1 ≤ 9223372036854775807) (hb : BytesAt w (g0 + 1) w.heap.size (some ⟨g, 0, none⟩) m m f.2.2) :
    GotPends (((w.setCell ⟨g0, k * 3, none⟩ (.string f.1)).setCell ⟨g0, k * 3 + 1, none⟩ (.int .i64 f.2.1)).setCell ⟨g0, k * 3 + 2, none⟩ (.slice (some ⟨g, 0, none⟩) m m)) g0 (((xs.set (k * 3) (.string f.1)).set (k * 3 + 1) (.int .i64 f.2.1)).set (k * 3 + 2) (.slice (some ⟨g, 0, none⟩) m m)) fs (k + 1) := by
  intro j hj
  by_cases hjk : j = k
  · subst hjk
    rw [← hf]
    refine ⟨hs, hp, g, m, ?_, ?_, ?_, ?_⟩
    · rw [List.getElem?_set_ne (by omega), List.getElem?_set_ne (by omega), List.getElem?_set_self (by omega)]
    · rw [List.getElem?_set_ne (by omega), List.getElem?_set_self (by simp; omega)]
    · rw [List.getElem?_set_self (by simp; omega)]
    · simpa using hb.keep ((((Keeps.refl _ _ _).set (p := ⟨g0, j * 3, none⟩) (.inl (Nat.lt_succ_self _)) _).set (p := ⟨g0, j * 3 + 1, none⟩) (.inl (Nat.lt_succ_self _)) _).set (p := ⟨g0, j * 3 + 2, none⟩) (.inl (Nat.lt_succ_self _)) _)
  · obtain ⟨h0, h9, g', m', h2, h3, h4, h5⟩ := h j (by omega)
    refine ⟨h0, h9, g', m', ?_, ?_, ?_, ?_⟩
    · rw [List.getElem?_set_ne (by omega), List.getElem?_set_ne (by omega), List.getElem?_set_ne (by omega)]; exact h2
    · rw [List.getElem?_set_ne (by omega), List.getElem?_set_ne (by omega), List.getElem?_set_ne (by omega)]; exact h3
    · rw [List.getElem?_set_ne (by omega), List.getElem?_set_ne (by omega), List.getElem?_set_ne (by omega)]; exact h4
    · simpa using h5.keep ((((Keeps.refl _ _ _).set (p := ⟨g0, k * 3, none⟩) (.inl (Nat.lt_succ_self _)) _).set (p := ⟨g0, k * 3 + 1, none⟩) (.inl (Nat.lt_succ_self _)) _).set (p := ⟨g0, k * 3 + 2, none⟩) (.inl (Nat.lt_succ_self _)) _)
theorem files_of_got {w : World} {base e g0 n : Nat} {xs : List Value} {fs : List PF} (h : w.ownsRow base e 2 (.slice (some ⟨g0, 0, none⟩) n n) n xs) (hl : fs.length = n) (hm : n ≤ maxLen) (hG : GotFiles w g0 xs fs n) : FilesAt w g0 w.heap.size (some ⟨g0, 0, none⟩) n n fs := by
  have hb := h.lt g0 rfl
  refine ⟨hl, Nat.le_refl _, hm, fun hn => ⟨g0, 0, rfl, ⟨Nat.le_refl _, hb.2⟩, fun i hi => ?_⟩⟩
  obtain ⟨h0, g, m, h2, h3, h4⟩ := hG i hi
  refine ⟨?_, h0, some ⟨g, 0, none⟩, m, m, ?_, h4.up (Nat.le_succ _) (Nat.le_refl _)⟩
  · rw [Nat.zero_add, h.cellAt (i * 2) (by omega), h2]
  · rw [Nat.zero_add, h.cellAt (i * 2 + 1) (by omega), h3]
theorem pends_of_got {w : World} {base e g0 n : Nat} {xs : List Value} {fs : List PP} (h : w.ownsRow base e 3 (.slice (some ⟨g0, 0, none⟩) n n) n xs) (hl : fs.length = n) (hm : n ≤ maxLen) (hG : GotPends w g0 xs fs n) : PendsAt w g0 w.heap.size (some ⟨g0, 0, none⟩) n n fs := by
  have hb := h.lt g0 rfl
  refine ⟨hl, Nat.le_refl _, hm, fun hn => ⟨g0, 0, rfl, ⟨Nat.le_refl _, hb.2⟩, fun i hi => ?_⟩⟩
  obtain ⟨h0, h9, g, m, h2, h3, h4, h5⟩ := hG i hi
  refine ⟨?_, h0, ?_, h9, some ⟨g, 0, none⟩, m, m, ?_, h5.up (Nat.le_succ _) (Nat.le_refl _)⟩
  · rw [Nat.zero_add, h.cellAt (i * 3) (by omega), h2]
  · rw [Nat.zero_add, h.cellAt (i * 3 + 1) (by omega), h3]
  · rw [Nat.zero_add, h.cellAt (i * 3 + 2) (by omega), h4]

/-- How much a disk weighs. -/
def wFile (f : PF) : Int := f.1.size + f.2.length
def wPend (p : PP) : Int := p.1.size + p.2.2.length
def wFiles : List PF → Int
  | [] => 0
  | f :: r => wFile f + wFiles r
def wPends : List PP → Int
  | [] => 0
  | f :: r => wPend f + wPends r
theorem wFiles_append (xs ys : List PF) : wFiles (xs ++ ys) = wFiles xs + wFiles ys := by
  induction xs with
  | nil => simp [wFiles]
  | cons x r ih => simp [wFiles, ih]; omega
theorem wPends_append (xs ys : List PP) : wPends (xs ++ ys) = wPends xs + wPends ys := by
  induction xs with
  | nil => simp [wPends]
  | cons x r ih => simp [wPends, ih]; omega
theorem wFiles_nonneg (xs : List PF) : 0 ≤ wFiles xs := by
  induction xs with
  | nil => simp [wFiles]
  | cons x r ih => simp [wFiles, wFile]; omega
theorem wPends_nonneg (xs : List PP) : 0 ≤ wPends xs := by
  induction xs with
  | nil => simp [wPends]
  | cons x r ih => simp [wPends, wPend]; omega
theorem take_snocD {α : Type} (l : List α) (k : Nat) (d : α) (h : k < l.length) : l.take (k + 1) = l.take k ++ [l.getD k d] := by
  rw [List.take_succ_eq_append_getElem h]; simp [List.getD, List.getElem?_eq_getElem h]
theorem ret_int {k : IntKind} {a b : Int} (h : a = b) : Ending.returned (.int k a) = .returned (.int k b) := by rw [h]

end Go.Proofs.Ytcmhobbpeaeebaa
namespace Go.Proofs.Ytcmhobbpeaeebaa
open Go.RowKit
set_option linter.unusedVariables false
set_option maxRecDepth 100000

theorem info_u8 : (Try.prog.info? 5).map (fun i => (i.zero, i.size, i.bytes)) = some (some (.int .u8 0), 1, 1) := by kernel_rfl
/-- What is owned and known cell by cell is bytes behind a slice. -/
theorem bytes_of_owns {w : World} {base e g n c : Nat} {xs : List Value} {bs : List Int} (h : w.ownsRow base e 1 (.slice (some ⟨g, 0, none⟩) n c) n xs) (hl : bs.length = n) (hx : ∀ j, j < n → xs[j]? = some (.int .u8 (bs.getD j 0))) (hw : ∀ x ∈ bs, 0 ≤ x ∧ x ≤ 255) : BytesAt w base w.heap.size (some ⟨g, 0, none⟩) n c bs := by
  have hb := h.lt g rfl
  have hc : n ≤ c ∧ c ≤ maxLen := by
    rcases h.2 with ⟨h', _⟩ | ⟨g', cap', cur, h', _, hg, h1, h2, _⟩
    · simp at h'
    · simp only [Value.slice.injEq, Option.some.injEq, Addr.mk.injEq, and_true, true_and] at h'
      obtain ⟨_, rfl⟩ := h'
      exact ⟨h1, h2⟩
  refine ⟨hl, hc.1, hc.2, hw, fun hn => ⟨g, 0, rfl, hb, fun i hi => ?_⟩, fun h => by cases h⟩
  rw [Nat.zero_add, h.cellAt i (by omega), hx i hi]

set_option maxHeartbeats 400000 in
theorem toByteS_any (a : Option Addr) (n c : Nat) (bs : List Int) (w : World) (A B : Nat) (hB : B ≤ w.heap.size) (h : BytesAt w A B a n c bs) (hn : n ≤ 1048576) :
    Calls Try.prog 13 #[.slice a n c] w fun e w' => ∃ g, w.heap.size ≤ g ∧ e = .returned (.slice (some ⟨g, 0, none⟩) n n) ∧ BytesAt w' w.heap.size w'.heap.size (some ⟨g, 0, none⟩) n n bs ∧ Below w.heap.size w w' := by
  obtain ⟨hl, hnc, hc, hw, hcell, _⟩ := h
  obtain ⟨i0, hi, hz0, hz1, hz2⟩ := info_parts info_u8
  go_enter Try.func13, Try.ntmps13
  go_wp2_with (at_make; refine wpList_make_full _ rfl _ _ 22 rfl w.heap.size 5 i0 (.int .u8 0) 1 Try.underlying22 hi hz0 hz1 .i64 .i64 n n n rfl rfl rfl rfl (by rw [hz2]; omega) (by unfold maxLen; omega) (Nat.le_refl _) ?_; intro w1 hown hgr)
  have hb1 : Below w.heap.size w w1 := (Below.refl _ _).grown hgr (Nat.le_refl _) (by simp)
  go_loopw [4] (fun i wr => ∃ k : Nat, k ≤ n ∧ i = .int .i64 k ∧ Below w.heap.size w wr ∧ ∃ xs, wr.ownsRow w.heap.size 5 1 (.slice (some ⟨w.heap.size, 0, none⟩) n n) n xs ∧ ∀ j, j < k → xs[j]? = some (.int .u8 (bs.getD j 0))) (fun i _ => n - (intOf i).toNat)
  case atStart => exact ⟨0, Nat.zero_le _, rfl, hb1, _, hown, fun j hj => absurd hj (Nat.not_lt_zero _)⟩
  case round =>
    clear hown hgr hb1
    obtain ⟨k, hk, rfl, hbel, xs, hown, hxs⟩ := hrel
    have HX : Hid (∀ j, j < k → xs[j]? = some (.int .u8 (bs.getD j 0))) := hxs
    clear hxs
    by_cases hlt : k < n
    · obtain ⟨b, off, rfl, hb, hcb⟩ := hcell (by omega)
      have e1 := (hbel.cell (p := ⟨b, off + k, none⟩) (by show b < _; omega)).trans (hcb k hlt)
      clear hcell hcb
      have hf := hown.frozenAt k
      have hxl := hown.1
      obtain ⟨u, hu⟩ : ∃ u, wr.cell? ⟨w.heap.size, k, none⟩ = some u := ⟨xs[k]'(by omega), by rw [hown.cellAt k (by omega)]; exact List.getElem?_eq_getElem _⟩
      have R := hown.stored k (.int .u8 (bs.getD k 0))
      have HR : Hid (∀ j, j < k + 1 → (xs.set k (.int .u8 (bs.getD k 0)))[j]? = some (.int .u8 (bs.getD j 0))) := by
        intro j hj
        by_cases hjk : j = k
        · subst hjk; rw [List.getElem?_set_self (by omega)]
        · rw [List.getElem?_set_ne (by omega)]; exact HX.out j (by omega)
      have hb2 := hbel.setCell (p := ⟨w.heap.size, k, none⟩) (Nat.le_refl _) (.int .u8 (bs.getD k 0))
      generalize bs.getD k 0 = x at e1 R HR hb2
      clear hown
      obtain ⟨R1, R2⟩ := R
      go_wp2
      go_roundw
      case rel => exact ⟨k + 1, by omega, by go_num, hb2, _, R1, HR.out⟩
      case measure => simp [intOf]; omega
    · go_wp2
      go_ret
      exact ⟨w.heap.size, Nat.le_refl _, rfl, bytes_of_owns hown hl (fun j hj => HX.out j (by omega)) hw, hbel⟩
set_option maxHeartbeats 400000 in
theorem eqByteS_same (a : Option Addr) (n c : Nat) (a2 : Option Addr) (c2 : Nat) (bs : List Int) (w : World) (A B A2 B2 : Nat) (h : BytesAt w A B a n c bs) (k : BytesAt w A2 B2 a2 n c2 bs) :
    Calls Try.prog 16 #[.slice a n c, .slice a2 n c2] w fun e w' => e = .returned (.bool true) ∧ ∃ m, w' = w.drewN m := by
  obtain ⟨hl, hnc, hc, _, hcell, _⟩ := h
  obtain ⟨_, _, _, _, kcell, _⟩ := k
  unfold maxLen at hc
  have hne : ((n : Int) != (n : Int)) = false := by simp
  go_enter Try.func16, Try.ntmps16
  go_wp2
  go_loopw [5] (fun i wr => ∃ k : Nat, k ≤ n ∧ i = .int .i64 k ∧ ∃ m, wr = w.drewN m) (fun i _ => n - (intOf i).toNat)
  case atStart => exact ⟨0, Nat.zero_le _, rfl, 0, rfl⟩
  case round =>
    obtain ⟨k, hk, rfl, m, rfl⟩ := hrel
    by_cases hlt : k < n
    · obtain ⟨b, off, rfl, hb, hcb⟩ := hcell (by omega)
      obtain ⟨b2, off2, rfl, hb2, hcb2⟩ := kcell (by omega)
      have e1 := hcb k hlt
      have e2 := hcb2 k hlt
      clear hcell kcell hcb hcb2
      generalize bs.getD k 0 = x at e1 e2
      have hx : (x != x) = false := by simp
      go_wp2
      go_quiet (fail)
      go_wp2
      go_roundw
      case rel => exact ⟨k + 1, by omega, by go_num, _, rfl⟩
      case measure => simp [intOf]; omega
    · go_wp2
      go_ret
      exact ⟨rfl, m, rfl⟩
def u8s (bs : List Int) : List Value := bs.map (Value.int .u8)
theorem own_shape {w : World} {base e size : Nat} {v : Value} {n : Nat} {xs : List Value} (h : w.ownsRow base e size v n xs) : ∃ a c, v = .slice a n c := by
  rcases h.2 with ⟨rfl, rfl⟩ | ⟨g, cap, cur, rfl, _⟩
  · exact ⟨none, 0, rfl⟩
  · exact ⟨_, _, rfl⟩
theorem bytesAt_of_own {w : World} {base : Nat} {v : Value} {bs : List Int} (h : w.ownsRow base 5 1 v bs.length (u8s bs)) (hw : ∀ x ∈ bs, 0 ≤ x ∧ x ≤ 255) : ∃ a n c, v = .slice a n c ∧ BytesAt w base w.heap.size a n c bs := by
  rcases h.2 with ⟨rfl, hn⟩ | ⟨g, cap, cur, rfl, hb, hg, h1, h2, _⟩
  · exact ⟨none, 0, 0, rfl, hn, Nat.le_refl _, Nat.zero_le _, hw, fun h => absurd h (Nat.lt_irrefl _), fun _ => rfl⟩
  · refine ⟨some ⟨g, 0, none⟩, bs.length, cap, rfl, bytes_of_owns h rfl (fun j hj => ?_) hw⟩
    simp [u8s, List.getElem?_eq_getElem hj]
/-- append to a slice of one's own, as one step of a region that draws. -/
theorem step_append_own {P : Program} {ops : Array Oper} {o : Oper} {a : Act} {w : World} {K : Act → World → Prop} {Q : Exit → Act → World → Prop} {E : Prop}
    (hgd : o.guard = none) (s x : Operand) (t : TypeId) (ho : o.op = .call { callee := .builtin .append, args := #[s, x], argTypes := #[t, t] })
    (base : Nat) (e : TypeId) (i : TypeInfo) (z : Value) (size bytes : Nat) (ht : P.underlying t = some (.slice e)) (hi : P.info? e = some i) (hz : i.zero = some z)
    (hsize : i.size = size) (hby : i.bytes = bytes) (hzs : z.cells.size = size) (hsz : 0 < size)
    (v : Value) (n : Nat) (xs : List Value) (hs : a.eval s = v) (hown : w.ownsRow base e size v n xs)
    (ad : Addr) (m c : Nat) (news : List Value) (hx : a.eval x = .slice (some ad) m c) (hl : news.length = m * size) (hnews : ∀ j u, news[j]? = some u → w.cell? (ad.add j) = some u) (h1 : ∀ u ∈ news, u.oneCell' = true)
    (h63 : n + m ≤ maxLen) (hbytes : (n + m) * bytes ≤ 140737488355328) (hbase : base ≤ w.heap.size)
    (h : ∀ v' w', w'.ownsRow base e size v' (n + m) (xs ++ news) → w.grownBy w' v.ownBlock → K (a.put o.dst v') w') :
    if Region.wanted o (yielded ops a.tmps) = true then Oper.wp P o a w K Q else E := by
  rw [if_pos (by simp [Region.wanted, hgd])]
  exact wp_append_own w s x t ho base e i z size bytes ht hi hz hsize hby hzs hsz v n xs hs hown ad m c news hx hl hnews h1 h63 hbytes hbase fun v' w' h2 h3 _ => h v' w' h2 h3

/-- Nothing but the blocks of S is written. -/
structure Fr (S : Nat → Prop) (w w' : World) : Prop where
  os : w'.os = w.os
  tape : w'.tape = w.tape
  output : w'.output = w.output
  size : w.heap.size ≤ w'.heap.size
  block : ∀ k, k < w.heap.size → ¬ S k → w'.heap[k]? = w.heap[k]?
theorem Fr.refl (S : Nat → Prop) (w : World) : Fr S w w := ⟨rfl, rfl, rfl, Nat.le_refl _, fun _ _ _ => rfl⟩
theorem Fr.trans {S : Nat → Prop} {a b c : World} (h : Fr S a b) (k : Fr S b c) : Fr S a c :=
  ⟨k.os.trans h.os, k.tape.trans h.tape, k.output.trans h.output, Nat.le_trans h.size k.size, fun i hi hn => (k.block i (Nat.lt_of_lt_of_le hi h.size) hn).trans (h.block i hi hn)⟩
theorem Fr.of_grown {S : Nat → Prop} {w w' : World} {row : Option Nat} (h : w.grownBy w' row) (hS : ∀ g, row = some g → S g) : Fr S w w' :=
  ⟨h.os, h.tape, h.output, h.size, fun k hk hn => h.block k hk (fun e => hn (hS k e.symm))⟩
theorem Fr.of_below {S : Nat → Prop} {w w' : World} (h : Below w.heap.size w w') : Fr S w w' :=
  ⟨h.os, h.tape, h.output, h.size, fun k hk _ => h.block k hk⟩
theorem Fr.weak {S T : Nat → Prop} {w w' : World} (h : Fr S w w') (hS : ∀ g, S g → T g) : Fr T w w' :=
  ⟨h.os, h.tape, h.output, h.size, fun k hk hn => h.block k hk (fun e => hn (hS k e))⟩
theorem Fr.below {S : Nat → Prop} {w w' : World} {B : Nat} (h : Fr S w w') (hB : B ≤ w.heap.size) (hS : ∀ g, S g → B ≤ g) : Below B w w' :=
  ⟨h.os, h.tape, h.output, h.size, fun k hk => h.block k (by omega) (fun e => by have := hS k e; omega)⟩
theorem owns_fr {S : Nat → Prop} {w w' : World} {base e size : Nat} {v : Value} {n : Nat} {xs : List Value} (h : w.ownsRow base e size v n xs) (hf : Fr S w w') (hS : ∀ g, v.ownBlock = some g → ¬ S g) : w'.ownsRow base e size v n xs := by
  refine ⟨h.1, ?_⟩
  rcases h.2 with hn | ⟨g, cap, cur, rfl, hb, hgg, rest⟩
  · exact .inl hn
  · refine .inr ⟨g, cap, cur, rfl, hb, ?_, rest⟩
    rw [hf.block g (Array.getElem?_eq_some_iff.1 hgg).1 (hS g rfl)]
    exact hgg
end Go.Proofs.Ytcmhobbpeaeebaa
namespace Go.Proofs.Ytcmhobbpeaeebaa
open Go.RowKit
set_option linter.unusedVariables false
set_option maxRecDepth 100000

/-- A kid and an entry of a page as plain data. -/
abbrev PK := ByteArray × Int
abbrev PE := ByteArray × ByteArray × Int × Int
def dK : PK := (ByteArray.empty, 0)
def dE : PE := (ByteArray.empty, ByteArray.empty, 0, 0)
def I64 (x : Int) : Prop := -9223372036854775808 ≤ x ∧ x ≤ 9223372036854775807
def kidCells (k : PK) : List Value := [.string k.1, .int .i64 k.2]
def entCells (e : PE) : List Value := [.string e.1, .string e.2.1, .int .i64 e.2.2.1, .int .i64 e.2.2.2]
def kidFit (k : PK) : Prop := k.1.size ≤ maxLen ∧ I64 k.2
def entFit (e : PE) : Prop := e.1.size ≤ maxLen ∧ e.2.1.size ≤ maxLen ∧ I64 e.2.2.1 ∧ I64 e.2.2.2

/-- A list of plain structs behind a slice: m cells each, 'cs' the cells of one. -/
def RowsAt {α : Type} (w : World) (A B : Nat) (m : Nat) (cs : α → List Value) (fit : α → Prop) (d : α) (a : Option Addr) (n c : Nat) (xs : List α) : Prop :=
  xs.length = n ∧ n ≤ c ∧ c ≤ maxLen ∧ (∀ i, i < n → fit (xs.getD i d)) ∧ (0 < n → ∃ b off, a = some ⟨b, off, none⟩ ∧ (A ≤ b ∧ b < B) ∧ ∀ i, i < n → ∀ j, j < m → w.cell? ⟨b, off + i * m + j, none⟩ = (cs (xs.getD i d))[j]?)
abbrev KidsAt (w : World) (A B : Nat) (a : Option Addr) (n c : Nat) (ks : List PK) : Prop := RowsAt w A B 2 kidCells kidFit dK a n c ks
abbrev EntsAt (w : World) (A B : Nat) (a : Option Addr) (n c : Nat) (es : List PE) : Prop := RowsAt w A B 4 entCells entFit dE a n c es

theorem RowsAt.keep {α : Type} {w w' : World} {A B m : Nat} {cs : α → List Value} {fit : α → Prop} {d : α} {a : Option Addr} {n c : Nat} {xs : List α} (h : RowsAt w A B m cs fit d a n c xs) (hk : Keeps A B w w') : RowsAt w' A B m cs fit d a n c xs := by
  obtain ⟨h1, h2, h3, h4, h5⟩ := h
  refine ⟨h1, h2, h3, h4, fun hn => ?_⟩
  obtain ⟨b, off, rfl, hlt, hc⟩ := h5 hn
  exact ⟨b, off, rfl, hlt, fun i hi j hj => (hk.cell hlt.1 hlt.2).trans (hc i hi j hj)⟩
theorem RowsAt.below {α : Type} {w w' : World} {A B m : Nat} {cs : α → List Value} {fit : α → Prop} {d : α} {a : Option Addr} {n c : Nat} {xs : List α} (h : RowsAt w A B m cs fit d a n c xs) (hb : Below B w w') : RowsAt w' A B m cs fit d a n c xs := h.keep (.of_below hb)
theorem RowsAt.up {α : Type} {w : World} {A B A' B' m : Nat} {cs : α → List Value} {fit : α → Prop} {d : α} {a : Option Addr} {n c : Nat} {xs : List α} (h : RowsAt w A B m cs fit d a n c xs) (hA : A' ≤ A) (hB : B ≤ B') : RowsAt w A' B' m cs fit d a n c xs := by
  obtain ⟨h1, h2, h3, h4, h5⟩ := h
  refine ⟨h1, h2, h3, h4, fun hn => ?_⟩
  obtain ⟨b, off, rfl, hlt, hc⟩ := h5 hn
  exact ⟨b, off, rfl, ⟨by omega, by omega⟩, hc⟩
/-- The blocks that stay as they were outside S. -/
theorem RowsAt.fr {α : Type} {S : Nat → Prop} {w w' : World} {A B m : Nat} {cs : α → List Value} {fit : α → Prop} {d : α} {a : Option Addr} {n c : Nat} {xs : List α} (h : RowsAt w A B m cs fit d a n c xs) (hf : Fr S w w') (hB : B ≤ w.heap.size) (hS : ∀ g, S g → g < A ∨ B ≤ g) : RowsAt w' A B m cs fit d a n c xs :=
  h.keep fun k h1 h2 => hf.block k (by omega) (fun hs => by have := hS k hs; omega)

/-- The cells of one element. -/
theorem KidsAt.at {w : World} {A B : Nat} {a : Option Addr} {n c : Nat} {ks : List PK} (h : KidsAt w A B a n c ks) {i : Nat} (hi : i < n) :
    ∃ b off, a = some ⟨b, off, none⟩ ∧ (A ≤ b ∧ b < B) ∧ kidFit (ks.getD i dK) ∧ w.cell? ⟨b, off + i * 2, none⟩ = some (.string (ks.getD i dK).1) ∧ w.cell? ⟨b, off + i * 2 + 1, none⟩ = some (.int .i64 (ks.getD i dK).2) := by
  obtain ⟨h1, h2, h3, h4, h5⟩ := h
  obtain ⟨b, off, rfl, hlt, hc⟩ := h5 (by omega)
  exact ⟨b, off, rfl, hlt, h4 i hi, by simpa [kidCells] using hc i hi 0 (by omega), by simpa [kidCells] using hc i hi 1 (by omega)⟩
theorem EntsAt.at {w : World} {A B : Nat} {a : Option Addr} {n c : Nat} {es : List PE} (h : EntsAt w A B a n c es) {i : Nat} (hi : i < n) :
    ∃ b off, a = some ⟨b, off, none⟩ ∧ (A ≤ b ∧ b < B) ∧ entFit (es.getD i dE) ∧ w.cell? ⟨b, off + i * 4, none⟩ = some (.string (es.getD i dE).1) ∧ w.cell? ⟨b, off + i * 4 + 1, none⟩ = some (.string (es.getD i dE).2.1) ∧ w.cell? ⟨b, off + i * 4 + 2, none⟩ = some (.int .i64 (es.getD i dE).2.2.1) ∧ w.cell? ⟨b, off + i * 4 + 3, none⟩ = some (.int .i64 (es.getD i dE).2.2.2) := by
  obtain ⟨h1, h2, h3, h4, h5⟩ := h
  obtain ⟨b, off, rfl, hlt, hc⟩ := h5 (by omega)
  exact ⟨b, off, rfl, hlt, h4 i hi, by simpa [entCells] using hc i hi 0 (by omega), by simpa [entCells] using hc i hi 1 (by omega), by simpa [entCells] using hc i hi 2 (by omega), by simpa [entCells] using hc i hi 3 (by omega)⟩

/-- The cells of a list, one element behind the other. -/
def rowsOf {α : Type} (cs : α → List Value) (xs : List α) : List Value := xs.flatMap cs
theorem rowsOf_get {α : Type} {m : Nat} {cs : α → List Value} (hm : ∀ x, (cs x).length = m) (d : α) : ∀ (xs : List α) (i j : Nat), i < xs.length → j < m → (rowsOf cs xs)[i * m + j]? = (cs (xs.getD i d))[j]?
  | [], i, j, hi, _ => by simp at hi
  | x :: r, 0, j, _, hj => by simp [rowsOf, List.getElem?_append_left (show j < (cs x).length by rw [hm]; exact hj)]
  | x :: r, i + 1, j, hi, hj => by
    rw [show (i + 1) * m + j = m + (i * m + j) by rw [Nat.add_mul]; omega]
    have := rowsOf_get hm d r i j (by simpa using hi) hj
    simp only [rowsOf, List.flatMap_cons] at this ⊢
    rw [List.getElem?_append_right (by rw [hm]; omega), hm, show m + (i * m + j) - m = i * m + j by omega, this]
    simp
theorem rowsOf_length {α : Type} {m : Nat} {cs : α → List Value} (hm : ∀ x, (cs x).length = m) : ∀ (xs : List α), (rowsOf cs xs).length = xs.length * m
  | [] => by simp [rowsOf]
  | x :: r => by
    have := rowsOf_length hm r
    simp only [rowsOf, List.flatMap_cons, List.length_append, List.length_cons, hm] at this ⊢
    rw [this, Nat.add_mul]; omega
/-- What is owned is there. -/
theorem RowsAt.of_owns {α : Type} {w : World} {base e m n : Nat} {cs : α → List Value} {fit : α → Prop} {d : α} {v : Value} {xs : List α} (hm : ∀ x, (cs x).length = m) (h : w.ownsRow base e m v n (rowsOf cs xs)) (hl : xs.length = n) (hf : ∀ i, i < n → fit (xs.getD i d)) : ∃ a c, v = .slice a n c ∧ RowsAt w base w.heap.size m cs fit d a n c xs := by
  rcases h.2 with ⟨rfl, rfl⟩ | ⟨g, cap, cur, rfl, hg, hgg, h1, h2, _⟩
  · exact ⟨none, 0, rfl, hl, Nat.le_refl _, Nat.zero_le _, hf, fun h => absurd h (Nat.lt_irrefl _)⟩
  · refine ⟨_, _, rfl, hl, h1, h2, hf, fun hn => ⟨g, 0, rfl, h.lt g rfl, fun i hi j hj => ?_⟩⟩
    have hlen : i * m + j < n * m := by
      have : (i + 1) * m ≤ n * m := Nat.mul_le_mul_right m (by omega)
      rw [Nat.add_mul] at this; omega
    rw [Nat.zero_add, h.cellAt (i * m + j) hlen, rowsOf_get hm d xs i j (by omega) hj]
theorem owns_set {w : World} {base e size : Nat} {v : Value} {n : Nat} {xs : List Value} (h : w.ownsRow base e size v n xs) {p : Addr} (hp : ∀ g, v.ownBlock = some g → p.block ≠ g) (u : Value) : (w.setCell p u).ownsRow base e size v n xs := by
  refine ⟨h.1, ?_⟩
  rcases h.2 with hn | ⟨g, cap, cur, rfl, hbg, hgg, rest⟩
  · exact .inl hn
  · exact .inr ⟨g, cap, cur, rfl, hbg, (Below.heap_setCell w p u g (fun e => hp g rfl e.symm)).trans hgg, rest⟩
theorem owns_base {w : World} {base base' e size : Nat} {v : Value} {n : Nat} {xs : List Value} (h : w.ownsRow base e size v n xs) (hb : base' ≤ base) : w.ownsRow base' e size v n xs := by
  refine ⟨h.1, ?_⟩
  rcases h.2 with hn | ⟨g, cap, cur, rfl, hbg, rest⟩
  · exact .inl hn
  · exact .inr ⟨g, cap, cur, rfl, Nat.le_trans hb hbg, rest⟩
theorem kc2 : ∀ x, (kidCells x).length = 2 := fun _ => rfl
theorem ec4 : ∀ x, (entCells x).length = 4 := fun _ => rfl
end Go.Proofs.Ytcmhobbpeaeebaa
namespace Go.Proofs.Ytcmhobbpeaeebaa
open Go.RowKit
set_option linter.unusedVariables false
set_option maxRecDepth 100000

theorem owns_someD {w : World} {base e size n c : Nat} {a : Option Addr} {xs : List Value} (h : w.ownsRow base e size (.slice a n c) n xs) (hn : 0 < n) : ∃ g, a = some ⟨g, 0, none⟩ := by
  rcases h.2 with ⟨h0, h1⟩ | ⟨g, cap, cur, h0, _⟩
  · omega
  · injection h0 with h1; exact ⟨g, h1⟩
/-- The cursor of a draw. -/
def DCur (w : World) (C A B : Nat) : Prop :=
  B ≤ C ∧ ∃ (a : Option Addr) (n c : Nat) (bs : List Int) (i : Nat) (h : Int), w.heap[C]? = some (.cells #[.slice a n c, .int .i64 i, .int .i64 h] 108) ∧ i ≤ n ∧ BytesAt w A B a n c bs
theorem and_255 (y : Int) : 0 ≤ bits .and .i64 y 255 ∧ bits .and .i64 y 255 ≤ 255 := by
  have h : bits .and .i64 y 255 = IntKind.i64.wrap ((BitVec.ofInt 64 y &&& BitVec.ofInt 64 255).toNat : Int) := rfl
  have h2 : (BitVec.ofInt 64 y &&& BitVec.ofInt 64 255).toNat ≤ 255 := by
    rw [BitVec.toNat_and]
    exact Nat.le_trans Nat.and_le_right (by decide)
  rw [h, IntKind.wrap_i64]
  omega
theorem box_three {w : World} {N : Nat} {v0 v1 v2 : Value} {t : TypeId} (h : w.heap[N]? = some (.cells #[v0, v1, v2] t)) : w.cell? ⟨N, 0, none⟩ = some v0 ∧ w.cell? ⟨N, 1, none⟩ = some v1 ∧ w.cell? ⟨N, 2, none⟩ = some v2 := by
  simp [World.cell?, h]
theorem box_thaw {w : World} {M t : Nat} {cs : Array Value} (h : w.heap[M]? = some (.cells cs t)) (j : Nat) : w.frozen? ⟨M, j, none⟩ = false := by simp [World.frozen?, h]
theorem getD_byteD {bs : List Int} (hw : ∀ x ∈ bs, 0 ≤ x ∧ x ≤ 255) (k : Nat) : 0 ≤ bs.getD k 0 ∧ bs.getD k 0 ≤ 255 := by
  by_cases h : k < bs.length
  · rw [show bs.getD k 0 = bs[k] by simp [List.getD, h]]; exact hw _ (List.getElem_mem h)
  · rw [show bs.getD k 0 = 0 by simp [List.getD, Nat.le_of_not_lt h]]; omega
set_option maxHeartbeats 800000 in
theorem l1Byte_any (C A B : Nat) (w : World) (h : DCur w C A B) (hBw : B ≤ w.heap.size) :
    Calls Try.prog 97 #[.pointer (some ⟨C, 0, none⟩)] w fun e w' => ∃ x : Nat, e = .returned (.int .i64 x) ∧ x ≤ 255 ∧ DCur w' C A B ∧ Fr (fun g => g = C) w w' := by
  obtain ⟨hBC, a, n, c, bs, i, hh, hbox, hi, hb⟩ := h
  have hc := hb.2.2.1
  have hnc := hb.2.1
  unfold maxLen at hc
  have hCl := (Array.getElem?_eq_some_iff.1 hbox).1
  obtain ⟨c0, c1, c2⟩ := box_three hbox
  have ff := box_thaw hbox
  go_enter Try.func97, Try.ntmps97
  go_wp2_with fail
  have hbox1 : (w.setCell ⟨C, 2, none⟩ (.int .i64 (wrap64 (wrap64 (hh * 6364136223846793005) + 1442695040888963407)))).heap[C]? = some (.cells #[.slice a n c, .int .i64 i, .int .i64 (wrap64 (wrap64 (hh * 6364136223846793005) + 1442695040888963407))] 108) := by simp [World.setCell, Array.getElem?_modify, hbox]
  have hF1 : Fr (fun g => g = C) w (w.setCell ⟨C, 2, none⟩ (.int .i64 (wrap64 (wrap64 (hh * 6364136223846793005) + 1442695040888963407)))) := ⟨rfl, rfl, rfl, by simp [World.setCell], fun k _ hk => Below.heap_setCell w _ _ k hk⟩
  generalize w.setCell ⟨C, 2, none⟩ (.int .i64 (wrap64 (wrap64 (hh * 6364136223846793005) + 1442695040888963407))) = w1 at hbox1 hF1 ⊢
  generalize wrap64 (wrap64 (hh * 6364136223846793005) + 1442695040888963407) = h1 at hbox1
  have hb1 : BytesAt w1 A B a n c bs := hb.keep (fun k k1 k2 => hF1.block k (by omega) (by omega))
  clear c0 c1 c2 ff hb hbox
  obtain ⟨c0, c1, c2⟩ := box_three hbox1
  have ff := box_thaw hbox1
  go_quiet (fail)
  have hx := and_255 (bits .xor .i64 (h1 / 8589934592) (h1 / 35184372088832))
  generalize bits .and .i64 (bits .xor .i64 (h1 / 8589934592) (h1 / 35184372088832)) 255 = x0 at hx ⊢
  obtain ⟨x, rfl⟩ : ∃ x : Nat, x0 = (x : Int) := ⟨x0.toNat, by omega⟩
  have hbox2 : (w1.drewN nq).heap[C]? = some (.cells #[.slice a n c, .int .i64 i, .int .i64 h1] 108) := hbox1
  have hb2 : BytesAt (w1.drewN nq) A B a n c bs := hb1
  have hF2 : Fr (fun g => g = C) w (w1.drewN nq) := hF1.trans (Fr.of_below ⟨rfl, rfl, rfl, Nat.le_refl _, fun _ _ => rfl⟩)
  generalize w1.drewN nq = w2 at hbox2 hb2 hF2 ⊢
  clear c0 c1 c2 ff hbox1 hb1 hF1
  obtain ⟨c0, c1, c2⟩ := box_three hbox2
  have ff := box_thaw hbox2
  have hs2 := hF2.size
  by_cases hlt : i < n
  · obtain ⟨g, o, rfl, hg, hcell⟩ := hb2.2.2.2.2.1 (by omega)
    have hgC : g ≠ C := by omega
    have e1 := hcell i hlt
    clear hcell
    go_wp2_with fail
    go_quiet (fail)
    have hboxb : (w2.drewN nq).heap[C]? = some (.cells #[.slice (some ⟨g, o, none⟩) n c, .int .i64 i, .int .i64 h1] 108) := hbox2
    have hbb : BytesAt (w2.drewN nq) A B (some ⟨g, o, none⟩) n c bs := hb2
    have hFb : Fr (fun g => g = C) w (w2.drewN nq) := hF2.trans (Fr.of_below ⟨rfl, rfl, rfl, Nat.le_refl _, fun _ _ => rfl⟩)
    have e2 : (w2.drewN nq).cell? ⟨g, o + i, none⟩ = some (.int .u8 (bs.getD i 0)) := e1
    generalize w2.drewN nq = wb at hboxb hbb hFb e2 ⊢
    clear c0 c1 c2 ff hbox2 hb2 hF2 e1
    obtain ⟨c0, c1, c2⟩ := box_three hboxb
    generalize bs.getD i 0 = y at e2
    go_wp2_with fail
    go_quiet (fail)
    have hz := and_255 (wrap64 ((x : Int) + wrap64 y))
    generalize bits .and .i64 (wrap64 ((x : Int) + wrap64 y)) 255 = z0 at hz ⊢
    obtain ⟨z, rfl⟩ : ∃ z : Nat, z0 = (z : Int) := ⟨z0.toNat, by omega⟩
    have hbox3 : (wb.drewN nq).heap[C]? = some (.cells #[.slice (some ⟨g, o, none⟩) n c, .int .i64 i, .int .i64 h1] 108) := hboxb
    have hb3 : BytesAt (wb.drewN nq) A B (some ⟨g, o, none⟩) n c bs := hbb
    have hF3 : Fr (fun g => g = C) w (wb.drewN nq) := hFb.trans (Fr.of_below ⟨rfl, rfl, rfl, Nat.le_refl _, fun _ _ => rfl⟩)
    generalize wb.drewN nq = w3 at hbox3 hb3 hF3 ⊢
    have hs3 := hF3.size
    clear c0 c1 c2 hboxb hbb hFb e2
    obtain ⟨c0, c1, c2⟩ := box_three hbox3
    have ff := box_thaw hbox3
    have hbox4 : (w3.setCell ⟨C, 1, none⟩ (.int .i64 ((i : Int) + 1))).heap[C]? = some (.cells #[.slice (some ⟨g, o, none⟩) n c, .int .i64 ((i : Int) + 1), .int .i64 h1] 108) := by simp [World.setCell, Array.getElem?_modify, hbox3]
    have hF4 : Fr (fun g => g = C) w3 (w3.setCell ⟨C, 1, none⟩ (.int .i64 ((i : Int) + 1))) := ⟨rfl, rfl, rfl, by simp [World.setCell], fun k _ hk => Below.heap_setCell w3 _ _ k hk⟩
    have hb4 : BytesAt (w3.setCell ⟨C, 1, none⟩ (.int .i64 ((i : Int) + 1))) A B (some ⟨g, o, none⟩) n c bs := hb3.keep (fun k k1 k2 => hF4.block k (by omega) (by omega))
    go_wp2
    go_ret
    exact ⟨z, rfl, by omega, ⟨hBC, _, n, c, bs, i + 1, h1, hbox4, by omega, hb4⟩, hF3.trans hF4⟩
  · go_wp2_with fail
    go_quiet (fail)
    go_wp2
    go_ret
    exact ⟨x, rfl, by omega, ⟨hBC, a, n, c, bs, i, h1, hbox2, hi, hb2⟩, hF2.trans (Fr.of_below ⟨rfl, rfl, rfl, Nat.le_refl _, fun _ _ => rfl⟩)⟩
set_option maxHeartbeats 800000 in
theorem l1New_any (a : Option Addr) (n c : Nat) (bs : List Int) (w : World) (A B : Nat) (hB : B ≤ w.heap.size) (h : BytesAt w A B a n c bs) :
    Calls Try.prog 33 #[.slice a n c] w fun e w' => ∃ C, e = .returned (.pointer (some ⟨C, 0, none⟩)) ∧ w.heap.size ≤ C ∧ DCur w' C A B ∧ Below w.heap.size w w' := by
  have hc := h.2.2.1
  have hnc := h.2.1
  have hcell := h.2.2.2.2.1
  unfold maxLen at hc
  go_enter Try.func33, Try.ntmps33
  go_wp2
  go_loop [3, 4] (fun hv i => ∃ (k : Nat) (x : Int), k ≤ n ∧ i = .int .i64 k ∧ hv = .int .i64 x) (fun _ i => n - (intOf i).toNat)
  case atStart => exact ⟨0, _, Nat.zero_le _, rfl, rfl⟩
  case round =>
    obtain ⟨k, x, hk, rfl, rfl⟩ := hrel
    by_cases hlt : k < n
    · obtain ⟨b, off, rfl, hb, hcb⟩ := hcell (by omega)
      have e1 := hcb k hlt
      clear hcell hcb
      go_wp2
      go_round
      case rel => exact ⟨k + 1, _, by omega, by go_num, rfl⟩
      case measure => simp [intOf]; omega
    · clear hcell
      have hbox := heap_alloc_new w (.cells #[.slice a n c, .int .i64 0, .int .i64 x] 108)
      have hb1 : Below w.heap.size w (w.alloc (.cells #[.slice a n c, .int .i64 0, .int .i64 x] 108)) := (Below.refl _ _).alloc (Nat.le_refl _) _
      go_wp2
      go_ret
      exact ⟨w.heap.size, rfl, Nat.le_refl _, ⟨hB, a, n, c, bs, 0, x, hbox, Nat.zero_le _, h.below (hb1.mono hB)⟩, hb1⟩
theorem DCur.fr {w w' : World} {C A B : Nat} (h : DCur w C A B) (hf : Fr (fun g => g = C) w w') (hB : B ≤ w.heap.size) : B ≤ w'.heap.size := Nat.le_trans hB hf.size
theorem DCur.below {w w' : World} {C A B : Nat} (h : DCur w C A B) (hb : Below w.heap.size w w') : DCur w' C A B := by
  obtain ⟨hBC, a, n, c, bs, i, hh, hbox, hi, hby⟩ := h
  have hl := (Array.getElem?_eq_some_iff.1 hbox).1
  exact ⟨hBC, a, n, c, bs, i, hh, (hb.block C hl).trans hbox, hi, hby.below (hb.mono (by omega))⟩
theorem DCur.lt {w : World} {C A B : Nat} (h : DCur w C A B) : C < w.heap.size := by
  obtain ⟨hBC, a, n, c, bs, i, hh, hbox, hi, hby⟩ := h
  exact (Array.getElem?_eq_some_iff.1 hbox).1
theorem DCur.le {w : World} {C A B : Nat} (h : DCur w C A B) : B ≤ w.heap.size := Nat.le_of_lt (Nat.lt_of_le_of_lt h.1 h.lt)
/-- What a draw gives, and leaves. -/
def DPost (C A B : Nat) (w w' : World) : Prop := DCur w' C A B ∧ Fr (fun g => g = C) w w'
set_option maxHeartbeats 800000 in
theorem l1Below_any (C A B : Nat) (w : World) (h : DCur w C A B) (m : Int) (h1 : 1 ≤ m) (h2 : m ≤ 4294967296) :
    Calls Try.prog 72 #[.pointer (some ⟨C, 0, none⟩), .int .i64 m] w fun e w' => ∃ x : Nat, e = .returned (.int .i64 x) ∧ (x : Int) < m ∧ DCur w' C A B ∧ Fr (fun g => g = C) w w' := by
  go_enter Try.func72, Try.ntmps72
  have hm0 : m ≠ 0 := by omega
  by_cases hm : m ≤ 256
  · go_wp2_with fail
    refine (l1Byte_any C A B w h h.le).mono ?_
    rintro e w1 ⟨x, rfl, hx, hD, hF⟩
    go_wp2
    obtain ⟨r, hr⟩ : ∃ r : Nat, (x : Int) % m = (r : Int) := ⟨((x : Int) % m).toNat, (Int.toNat_of_nonneg (Int.emod_nonneg _ hm0)).symm⟩
    have hlt := Int.emod_lt_of_pos (x : Int) (show 0 < m by omega)
    rw [hr] at hlt ⊢
    go_ret
    exact ⟨r, rfl, hlt, hD, hF⟩
  · go_wp2_with fail
    refine (l1Byte_any C A B w h h.le).mono ?_
    rintro e w1 ⟨x, rfl, hx, hD1, hF1⟩
    go_wp2_with fail
    refine (l1Byte_any C A B w1 hD1 hD1.le).mono ?_
    rintro e w2 ⟨y, rfl, hy, hD2, hF2⟩
    go_wp2_with fail
    refine (l1Byte_any C A B w2 hD2 hD2.le).mono ?_
    rintro e w3 ⟨z, rfl, hz, hD3, hF3⟩
    go_wp2
    obtain ⟨r, hr⟩ : ∃ r : Nat, ((x : Int) * 65536 + (y : Int) * 256 + (z : Int)) % m = (r : Int) := ⟨(((x : Int) * 65536 + (y : Int) * 256 + (z : Int)) % m).toNat, (Int.toNat_of_nonneg (Int.emod_nonneg _ hm0)).symm⟩
    have hlt := Int.emod_lt_of_pos ((x : Int) * 65536 + (y : Int) * 256 + (z : Int)) (show 0 < m by omega)
    rw [hr] at hlt ⊢
    go_ret
    exact ⟨r, rfl, hlt, hD3, (hF1.trans hF2).trans hF3⟩
theorem l1Once_any (C A B : Nat) (w : World) (h : DCur w C A B) (m : Int) (h1 : 1 ≤ m) (h2 : m ≤ 4294967296) :
    Calls Try.prog 36 #[.pointer (some ⟨C, 0, none⟩), .int .i64 m] w fun e w' => ∃ b : Bool, e = .returned (.bool b) ∧ DCur w' C A B ∧ Fr (fun g => g = C) w w' := by
  go_enter Try.func36, Try.ntmps36
  go_wp2_with fail
  refine (l1Below_any C A B w h m h1 h2).mono ?_
  rintro e w1 ⟨x, rfl, hx, hD, hF⟩
  go_wp2
  go_ret
  exact ⟨_, rfl, hD, hF⟩
theorem l2DrawTx_any (C A B : Nat) (w : World) (h : DCur w C A B) :
    Calls Try.prog 34 #[.pointer (some ⟨C, 0, none⟩)] w fun e w' => ∃ x : Nat, e = .returned (.int .i64 x) ∧ x ≤ 2000000000 ∧ DCur w' C A B ∧ Fr (fun g => g = C) w w' := by
  go_enter Try.func34, Try.ntmps34
  go_wp2_with fail
  refine (l1Below_any C A B w h 8 (by omega) (by omega)).mono ?_
  rintro e w1 ⟨k, rfl, hk, hD, hF⟩
  by_cases h0 : k = 0
  · subst h0
    go_wp2
    go_ret
    exact ⟨2000000000, rfl, by omega, hD, hF⟩
  · by_cases hk1 : k = 1
    · subst hk1
      go_wp2
      go_ret
      exact ⟨1, rfl, by omega, hD, hF⟩
    · have n0 : ((k : Int) == 0) = false := by simp; omega
      have n1 : ((k : Int) == 1) = false := by simp; omega
      go_wp2_with fail
      refine (l1Below_any C A B w1 hD 70000 (by omega) (by omega)).mono ?_
      rintro e w2 ⟨x, rfl, hx, hD2, hF2⟩
      go_wp2
      rw [show (1 : Int) + (x : Int) = ((1 + x : Nat) : Int) by omega]
      go_ret
      exact ⟨1 + x, rfl, by omega, hD2, hF.trans hF2⟩
theorem l2DrawNum_any (C A B : Nat) (w : World) (h : DCur w C A B) (low last : Nat) (hl : low ≤ 2) (hl2 : 300 ≤ last ∧ last ≤ 1000) :
    Calls Try.prog 74 #[.pointer (some ⟨C, 0, none⟩), .int .i64 low, .int .i64 last] w fun e w' => ∃ x : Nat, e = .returned (.int .i64 x) ∧ low ≤ x ∧ x ≤ last ∧ DCur w' C A B ∧ Fr (fun g => g = C) w w' := by
  go_enter Try.func74, Try.ntmps74
  go_wp2_with fail
  refine (l1Below_any C A B w h 12 (by omega) (by omega)).mono ?_
  rintro e w1 ⟨k, rfl, hk, hD, hF⟩
  by_cases h0 : k = 0
  · subst h0
    go_wp2
    go_ret
    exact ⟨last, rfl, by omega, by omega, hD, hF⟩
  · by_cases hk1 : k = 1
    · subst hk1
      go_wp2
      go_ret
      exact ⟨low, rfl, by omega, by omega, hD, hF⟩
    · have n0 : ((k : Int) == 0) = false := by simp; omega
      have n1 : ((k : Int) == 1) = false := by simp; omega
      by_cases hk2 : k = 2
      · subst hk2
        go_wp2_with fail
        refine (l1Below_any C A B w1 hD 3 (by omega) (by omega)).mono ?_
        rintro e w2 ⟨x, rfl, hx, hD2, hF2⟩
        go_wp2
        rw [show (255 : Int) + (x : Int) = ((255 + x : Nat) : Int) by omega]
        go_ret
        exact ⟨255 + x, rfl, by omega, by omega, hD2, hF.trans hF2⟩
      · have n2 : ((k : Int) == 2) = false := by simp; omega
        go_wp2_with fail
        refine (l1Below_any C A B w1 hD 40 (by omega) (by omega)).mono ?_
        rintro e w2 ⟨x, rfl, hx, hD2, hF2⟩
        go_wp2
        rw [show (low : Int) + (x : Int) = ((low + x : Nat) : Int) by omega]
        go_ret
        exact ⟨low + x, rfl, by omega, by omega, hD2, hF.trans hF2⟩
end Go.Proofs.Ytcmhobbpeaeebaa
namespace Go.Proofs.Ytcmhobbpeaeebaa
open Go.RowKit
set_option linter.unusedVariables false
set_option maxRecDepth 100000

/-- The bytes of a string. -/
def strB (s : ByteArray) : List Int := s.data.toList.map fun b => (b.toNat : Int)
theorem strB_len (s : ByteArray) : (strB s).length = s.size := by simp [strB]
theorem strB_byte (s : ByteArray) : ∀ x ∈ strB s, 0 ≤ x ∧ x ≤ 255 := by
  intro x hx
  simp only [strB, List.mem_map] at hx
  obtain ⟨b, _, rfl⟩ := hx
  have := b.toNat_lt
  omega
theorem u8s_strB (s : ByteArray) : u8s (strB s) = Lib.strCells s := by simp [u8s, strB, Lib.strCells]
theorem u8s_append (a b : List Int) : u8s (a ++ b) = u8s a ++ u8s b := by simp [u8s]

/-- append(v, x...), both bytes, v one's own. -/
theorem wpList_ab {w : World} {ops : Array Oper} {rest : List Oper} {o : Oper} {a : Act} {Q : Exit → Act → World → Prop} (hgd : o.guard = none) (s x : Operand)
    (ho : o.op = .call { callee := .builtin .append, args := #[s, x], argTypes := #[22, 22] })
    (base : Nat) (v : Value) (n : Nat) (bs : List Int) (hs : a.eval s = v) (hown : w.ownsRow base 5 1 v n (u8s bs))
    (ad : Option Addr) (m c : Nat) (cs : List Int) (A B : Nat) (hx : a.eval x = .slice ad m c) (hB : BytesAt w A B ad m c cs) (hnm : n + m ≤ 1073741824) (hbase : base ≤ w.heap.size)
    (h : ∀ v' w', w'.ownsRow base 5 1 v' (n + m) (u8s (bs ++ cs)) → w.grownBy w' v.ownBlock → wpList Try.prog ops Q rest (a.put o.dst v') w') : wpList Try.prog ops Q (o :: rest) a w := by
  obtain ⟨i0, hi, hz0, hz1, hz2⟩ := info_parts info_u8
  obtain ⟨hl, hnc, hc, hw, hcell, hnil⟩ := hB
  rcases ad with _ | ad
  · have hm0 : m = 0 := by
      by_cases h0 : m = 0
      · exact h0
      · obtain ⟨_, _, h1, _⟩ := hcell (by omega); cases h1
    subst hm0
    have hc0 := hnil rfl
    subst hc0
    refine wpList_append_own_none hgd s x 22 ho base 5 i0 1 Try.underlying22 hi v n (u8s bs) hs hown hx ?_
    refine h v w ?_ ⟨rfl, rfl, rfl, Nat.le_refl _, fun _ _ _ => rfl⟩
    rw [List.eq_nil_of_length_eq_zero hl, List.append_nil]
    exact hown
  · refine wpList_append_own w hgd s x 22 ho base 5 i0 (.int .u8 0) 1 1 Try.underlying22 hi hz0 hz1 hz2 rfl (by decide) v n (u8s bs) hs hown ad m c (u8s cs) hx (by simp [u8s, hl]) ?_ ?_ (by unfold maxLen; omega) (by omega) hbase ?_
    · intro j u hj
      have hjn : j < m := by
        have := (List.getElem?_eq_some_iff.1 hj).1
        simp [u8s] at this; omega
      obtain ⟨b, off, h1, h2, h3⟩ := hcell (by omega)
      cases h1
      have h4 := h3 j hjn
      have h5 : (⟨b, off, none⟩ : Addr).add j = ⟨b, off + j, none⟩ := by simp [Addr.add]
      rw [h5, h4]
      simp [u8s, List.getElem?_map] at hj
      obtain ⟨y, hy, rfl⟩ := hj
      simp [List.getD, hy]
    · intro u hu; simp [u8s] at hu; obtain ⟨y, _, rfl⟩ := hu; rfl
    · intro v' w' h1 h2 _
      rw [← u8s_append] at h1
      exact h v' w' h1 h2
/-- append(v, s...), s a string. -/
theorem wpList_as {w : World} {ops : Array Oper} {rest : List Oper} {o : Oper} {a : Act} {Q : Exit → Act → World → Prop} (hgd : o.guard = none) (s x : Operand)
    (ho : o.op = .call { callee := .builtin .append, args := #[s, x], argTypes := #[22, 9] })
    (base : Nat) (v : Value) (n : Nat) (bs : List Int) (hs : a.eval s = v) (hown : w.ownsRow base 5 1 v n (u8s bs))
    (t : ByteArray) (hx : a.eval x = .string t) (hnm : n + t.size ≤ 1073741824) (hbase : base ≤ w.heap.size)
    (h : ∀ v' w', w'.ownsRow base 5 1 v' (n + t.size) (u8s (bs ++ strB t)) → w.grownBy w' v.ownBlock → wpList Try.prog ops Q rest (a.put o.dst v') w') : wpList Try.prog ops Q (o :: rest) a w := by
  obtain ⟨i0, hi, hz0, hz1, hz2⟩ := info_parts info_u8
  refine Lib.wpList_append_own_string w hgd s x 22 9 ho base 5 i0 Try.underlying22 Try.underlying9 hi hz0 hz1 hz2 v n (u8s bs) hs hown t hx (by unfold maxLen; omega) (by omega) hbase ?_
  intro v' w' h1 h2 _
  rw [← u8s_strB, ← u8s_append] at h1
  exact h v' w' h1 h2
end Go.Proofs.Ytcmhobbpeaeebaa
namespace Go.Proofs.Ytcmhobbpeaeebaa
open Go.RowKit
set_option linter.unusedVariables false
set_option maxRecDepth 100000

def toB (bs : List Int) : ByteArray := ⟨(bs.map fun x => UInt8.ofNat x.toNat).toArray⟩
theorem toB_strB (s : ByteArray) : toB (strB s) = s := by
  obtain ⟨d⟩ := s
  simp [toB, strB, List.map_map]
  have : ((fun x : Int => UInt8.ofNat x.toNat) ∘ fun b : UInt8 => (b.toNat : Int)) = id := by
    funext b; simp
  rw [this]; simp
theorem toB_size (bs : List Int) : (toB bs).size = bs.length := by simp [toB, ByteArray.size]
theorem strB_toB {bs : List Int} (h : ∀ x ∈ bs, 0 ≤ x ∧ x ≤ 255) : strB (toB bs) = bs := by
  simp only [strB, toB, List.toList_toArray, List.map_map]
  conv => rhs; rw [← List.map_id bs]
  apply List.map_congr_left
  intro x hx
  have := h x hx
  simp [UInt8.toNat_ofNat']
  omega
theorem str_conv {w : World} {A B : Nat} {a : Option Addr} {n c : Nat} {bs : List Int} (h : BytesAt w A B a n c bs) : (convert 22 9 (.slice a n c)).run Try.prog w = .ok (.string (toB bs)) w := by
  obtain ⟨hl, hnc, hc, hw, hcell, hnil⟩ := h
  rcases a with _ | a
  · have hn : n = 0 := by
      by_cases h0 : n = 0
      · exact h0
      · obtain ⟨_, _, h1, _⟩ := hcell (by omega); cases h1
    subst hn
    have hc0 := hnil rfl
    subst hc0
    have hb : bs = [] := List.eq_nil_of_length_eq_zero hl
    subst hb
    rw [run_convert_bytes_string (P := Try.prog) w _ _ 5 none 0 0 Try.underlying22 Try.underlying5 Try.underlying9]
    rfl
  · subst hl
    have h1 := run_convert_bytes_back (P := Try.prog) w 22 9 5 a c (bs.map fun x => UInt8.ofNat x.toNat) Try.underlying22 Try.underlying5 Try.underlying9 ?_
    · simpa [toB] using h1
    · intro j hj
      simp at hj
      obtain ⟨b, off, e1, e2, e3⟩ := hcell (by omega)
      cases e1
      have h5 : (⟨b, off, none⟩ : Addr).add j = ⟨b, off + j, none⟩ := by simp [Addr.add]
      rw [h5, e3 j hj]
      have hx := hw (bs[j]) (List.getElem_mem hj)
      simp [List.getD, hj, UInt8.toNat_ofNat']
      omega
end Go.Proofs.Ytcmhobbpeaeebaa
