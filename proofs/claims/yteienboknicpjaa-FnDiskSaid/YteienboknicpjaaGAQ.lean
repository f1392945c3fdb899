import Derived.Test.YteienboknicpjaaGAA
import Derived.Test.YteienboknicpjaaGAD
import Derived.Test.YteienboknicpjaaGAN
import Derived.Laws.BitsAll
import Derived.Laws.IdiomStrings
import Derived.Test.YteienboknicpjaaChecked
import Derived.Deep.RegionHeld3
import Derived.Deep.QuietTactic
namespace Go.Proofs.Yteienboknicpjaa
open Go.RowKit
set_option linter.unusedVariables false
set_option maxRecDepth 100000

def toBx (bs : List Int) : ByteArray := ⟨(bs.map fun x => UInt8.ofNat x.toNat).toArray⟩
theorem str_convx {w : World} {A B : Nat} {a : Option Addr} {n c : Nat} {bs : List Int} (h : BytesAt w A B a n c bs) : (convert 22 9 (.slice a n c)).run Try.prog w = .ok (.string (toBx bs)) w := by
  obtain ⟨hl, hnc, hc, hw, hcell, hnil⟩ := h
  rcases a with _ | a
  · have hn : n = 0 := by
      by_cases h0 : n = 0
      · exact h0
      · obtain ⟨_, _, h1, _⟩ := hcell (by omega); cases h1
    subst hn
    have hc0 := hnil rfl
    subst hc0
    have hb : bs = [] := List.eq_nil_of_length_eq_zero hl
    subst hb
    rw [run_convert_bytes_string (P := Try.prog) w _ _ 5 none 0 0 Try.underlying22 Try.underlying5 Try.underlying9]
    rfl
  · subst hl
    have h1 := run_convert_bytes_back (P := Try.prog) w 22 9 5 a c (bs.map fun x => UInt8.ofNat x.toNat) Try.underlying22 Try.underlying5 Try.underlying9 ?_
    · simpa [toBx] using h1
    · intro j hj
      simp at hj
      obtain ⟨b, off, e1, e2, e3⟩ := hcell (by omega)
      cases e1
      have h5 : (⟨b, off, none⟩ : Addr).add j = ⟨b, off + j, none⟩ := by simp [Addr.add]
      rw [h5, e3 j hj]
      have hx := hw (bs[j]) (List.getElem_mem hj)
      simp [List.getD, hj, UInt8.toNat_ofNat']
      omega
theorem lwBytes_same (a : Option Addr) (n c : Nat) (bs : List Int) (a2 : Option Addr) (n2 c2 : Nat) (w : World) (A B A2 B2 : Nat) (h : BytesAt w A B a n c bs) (h2 : BytesAt w A2 B2 a2 n2 c2 bs) :
    Calls Try.prog 9 #[.slice a n c, .slice a2 n2 c2] w fun e w' => e = .returned (.bool true) ∧ w' = w := by
  have s1 := str_convx h
  have s2 := str_convx h2
  have hc : ((toBx bs).toList == (toBx bs).toList) = true := by simp
  go_enter Try.func9, Try.ntmps9
  go_wp2
  go_ret
  exact ⟨rfl, rfl⟩
set_option maxHeartbeats 800000 in
theorem lwFiles_same (a : Option Addr) (n c : Nat) (a2 : Option Addr) (c2 : Nat) (fs : List PF) (w : World) (A B A2 B2 : Nat) (hB : B ≤ w.heap.size) (hB2 : B2 ≤ w.heap.size) (h : FilesAt w A B a n c fs) (k : FilesAt w A2 B2 a2 n c2 fs) :
    Calls Try.prog 12 #[.slice a n c, .slice a2 n c2] w fun e w' => e = .returned (.bool true) ∧ Below w.heap.size w w' := by
  obtain ⟨hl, hnc, hc, hcell⟩ := h
  obtain ⟨_, _, _, kcell⟩ := k
  unfold maxLen at hc
  have hne : ((n : Int) != (n : Int)) = false := by simp
  go_enter Try.func12, Try.ntmps12
  go_wp2
  go_loopw [5] (fun i wr => ∃ k : Nat, k ≤ n ∧ i = .int .i64 k ∧ Below w.heap.size w wr) (fun i _ => n - (intOf i).toNat)
  case atStart => exact ⟨0, Nat.zero_le _, rfl, Below.refl _ _⟩
  case round =>
    obtain ⟨k, hk, rfl, hbel⟩ := hrel
    by_cases hlt : k < n
    · obtain ⟨b, off, rfl, hb, hcb⟩ := hcell (by omega)
      obtain ⟨b2, off2, rfl, hb2, hcb2⟩ := kcell (by omega)
      have e1 := (hcb k hlt).below hb (hbel.mono hB)
      have e2 := (hcb2 k hlt).below hb2 (hbel.mono hB2)
      clear hcell kcell hcb hcb2
      generalize fs.getD k (ByteArray.empty, []) = f at e1 e2
      obtain ⟨p1, p2, pa, pn, pc, p3, p4⟩ := e1
      obtain ⟨q1, q2, qa, qn, qc, q3, q4⟩ := e2
      have hnn : (f.1.toList == f.1.toList) = true := by simp
      have hs := hbel.size
      go_wp2
      go_quiet ((go_at_call 9; exact Calls.quiet_of_same (lwBytes_same _ _ _ f.2 _ _ _ _ A B A2 B2 (by exact p4) (by exact q4))))
      go_wp2
      go_roundw
      case rel => exact ⟨k + 1, by omega, by go_num, hbel.trans ⟨rfl, rfl, rfl, Nat.le_refl _, fun _ _ => rfl⟩⟩
      case measure => simp [intOf]; omega
    · go_wp2
      go_ret
      exact ⟨rfl, hbel⟩
end Go.Proofs.Yteienboknicpjaa
namespace Go.Proofs.Yteienboknicpjaa
open Go.RowKit
set_option linter.unusedVariables false
set_option maxRecDepth 100000

/-- A kid and an entry of a page as plain data. -/
abbrev PK := ByteArray × Int
abbrev PE := ByteArray × ByteArray × Int × Int
def dK : PK := (ByteArray.empty, 0)
def dE : PE := (ByteArray.empty, ByteArray.empty, 0, 0)
def I64 (x : Int) : Prop := -9223372036854775808 ≤ x ∧ x ≤ 9223372036854775807
def kidCells (k : PK) : List Value := [.string k.1, .int .i64 k.2]
def entCells (e : PE) : List Value := [.string e.1, .string e.2.1, .int .i64 e.2.2.1, .int .i64 e.2.2.2]
def kidFit (k : PK) : Prop := k.1.size ≤ maxLen ∧ I64 k.2
def entFit (e : PE) : Prop := e.1.size ≤ maxLen ∧ e.2.1.size ≤ maxLen ∧ I64 e.2.2.1 ∧ I64 e.2.2.2

/-- A list of plain structs behind a slice: m cells each, 'cs' the cells of one. -/
def RowsAt {α : Type} (w : World) (A B : Nat) (m : Nat) (cs : α → List Value) (fit : α → Prop) (d : α) (a : Option Addr) (n c : Nat) (xs : List α) : Prop :=
  xs.length = n ∧ n ≤ c ∧ c ≤ maxLen ∧ (∀ i, i < n → fit (xs.getD i d)) ∧ (0 < n → ∃ b off, a = some ⟨b, off, none⟩ ∧ (A ≤ b ∧ b < B) ∧ ∀ i, i < n → ∀ j, j < m → w.cell? ⟨b, off + i * m + j, none⟩ = (cs (xs.getD i d))[j]?)
abbrev KidsAt (w : World) (A B : Nat) (a : Option Addr) (n c : Nat) (ks : List PK) : Prop := RowsAt w A B 2 kidCells kidFit dK a n c ks
abbrev EntsAt (w : World) (A B : Nat) (a : Option Addr) (n c : Nat) (es : List PE) : Prop := RowsAt w A B 4 entCells entFit dE a n c es

theorem RowsAt.keep {α : Type} {w w' : World} {A B m : Nat} {cs : α → List Value} {fit : α → Prop} {d : α} {a : Option Addr} {n c : Nat} {xs : List α} (h : RowsAt w A B m cs fit d a n c xs) (hk : Keeps A B w w') : RowsAt w' A B m cs fit d a n c xs := by
  obtain ⟨h1, h2, h3, h4, h5⟩ := h
  refine ⟨h1, h2, h3, h4, fun hn => ?_⟩
  obtain ⟨b, off, rfl, hlt, hc⟩ := h5 hn
  exact ⟨b, off, rfl, hlt, fun i hi j hj => (hk.cell hlt.1 hlt.2).trans (hc i hi j hj)⟩
theorem RowsAt.below {α : Type} {w w' : World} {A B m : Nat} {cs : α → List Value} {fit : α → Prop} {d : α} {a : Option Addr} {n c : Nat} {xs : List α} (h : RowsAt w A B m cs fit d a n c xs) (hb : Below B w w') : RowsAt w' A B m cs fit d a n c xs := h.keep (.of_below hb)
theorem RowsAt.up {α : Type} {w : World} {A B A' B' m : Nat} {cs : α → List Value} {fit : α → Prop} {d : α} {a : Option Addr} {n c : Nat} {xs : List α} (h : RowsAt w A B m cs fit d a n c xs) (hA : A' ≤ A) (hB : B ≤ B') : RowsAt w A' B' m cs fit d a n c xs := by
  obtain ⟨h1, h2, h3, h4, h5⟩ := h
  refine ⟨h1, h2, h3, h4, fun hn => ?_⟩
  obtain ⟨b, off, rfl, hlt, hc⟩ := h5 hn
  exact ⟨b, off, rfl, ⟨by omega, by omega⟩, hc⟩
/-- The blocks that stay as they were outside S. -/
theorem RowsAt.fr {α : Type} {S : Nat → Prop} {w w' : World} {A B m : Nat} {cs : α → List Value} {fit : α → Prop} {d : α} {a : Option Addr} {n c : Nat} {xs : List α} (h : RowsAt w A B m cs fit d a n c xs) (hf : Fr S w w') (hB : B ≤ w.heap.size) (hS : ∀ g, S g → g < A ∨ B ≤ g) : RowsAt w' A B m cs fit d a n c xs :=
  h.keep fun k h1 h2 => hf.block k (by omega) (fun hs => by have := hS k hs; omega)

/-- The cells of one element. -/
theorem KidsAt.at {w : World} {A B : Nat} {a : Option Addr} {n c : Nat} {ks : List PK} (h : KidsAt w A B a n c ks) {i : Nat} (hi : i < n) :
    ∃ b off, a = some ⟨b, off, none⟩ ∧ (A ≤ b ∧ b < B) ∧ kidFit (ks.getD i dK) ∧ w.cell? ⟨b, off + i * 2, none⟩ = some (.string (ks.getD i dK).1) ∧ w.cell? ⟨b, off + i * 2 + 1, none⟩ = some (.int .i64 (ks.getD i dK).2) := by
  obtain ⟨h1, h2, h3, h4, h5⟩ := h
  obtain ⟨b, off, rfl, hlt, hc⟩ := h5 (by omega)
  exact ⟨b, off, rfl, hlt, h4 i hi, by simpa [kidCells] using hc i hi 0 (by omega), by simpa [kidCells] using hc i hi 1 (by omega)⟩
theorem EntsAt.at {w : World} {A B : Nat} {a : Option Addr} {n c : Nat} {es : List PE} (h : EntsAt w A B a n c es) {i : Nat} (hi : i < n) :
    ∃ b off, a = some ⟨b, off, none⟩ ∧ (A ≤ b ∧ b < B) ∧ entFit (es.getD i dE) ∧ w.cell? ⟨b, off + i * 4, none⟩ = some (.string (es.getD i dE).1) ∧ w.cell? ⟨b, off + i * 4 + 1, none⟩ = some (.string (es.getD i dE).2.1) ∧ w.cell? ⟨b, off + i * 4 + 2, none⟩ = some (.int .i64 (es.getD i dE).2.2.1) ∧ w.cell? ⟨b, off + i * 4 + 3, none⟩ = some (.int .i64 (es.getD i dE).2.2.2) := by
  obtain ⟨h1, h2, h3, h4, h5⟩ := h
  obtain ⟨b, off, rfl, hlt, hc⟩ := h5 (by omega)
  exact ⟨b, off, rfl, hlt, h4 i hi, by simpa [entCells] using hc i hi 0 (by omega), by simpa [entCells] using hc i hi 1 (by omega), by simpa [entCells] using hc i hi 2 (by omega), by simpa [entCells] using hc i hi 3 (by omega)⟩

/-- The cells of a list, one element behind the other. -/
def rowsOf {α : Type} (cs : α → List Value) (xs : List α) : List Value := xs.flatMap cs
theorem rowsOf_get {α : Type} {m : Nat} {cs : α → List Value} (hm : ∀ x, (cs x).length = m) (d : α) : ∀ (xs : List α) (i j : Nat), i < xs.length → j < m → (rowsOf cs xs)[i * m + j]? = (cs (xs.getD i d))[j]?
  | [], i, j, hi, _ => by simp at hi
  | x :: r, 0, j, _, hj => by simp [rowsOf, List.getElem?_append_left (show j < (cs x).length by rw [hm]; exact hj)]
  | x :: r, i + 1, j, hi, hj => by
    rw [show (i + 1) * m + j = m + (i * m + j) by rw [Nat.add_mul]; omega]
    have := rowsOf_get hm d r i j (by simpa using hi) hj
    simp only [rowsOf, List.flatMap_cons] at this ⊢
    rw [List.getElem?_append_right (by rw [hm]; omega), hm, show m + (i * m + j) - m = i * m + j by omega, this]
    simp
theorem rowsOf_length {α : Type} {m : Nat} {cs : α → List Value} (hm : ∀ x, (cs x).length = m) : ∀ (xs : List α), (rowsOf cs xs).length = xs.length * m
  | [] => by simp [rowsOf]
  | x :: r => by
    have := rowsOf_length hm r
    simp only [rowsOf, List.flatMap_cons, List.length_append, List.length_cons, hm] at this ⊢
    rw [this, Nat.add_mul]; omega
/-- What is owned is there. -/
theorem RowsAt.of_owns {α : Type} {w : World} {base e m n : Nat} {cs : α → List Value} {fit : α → Prop} {d : α} {v : Value} {xs : List α} (hm : ∀ x, (cs x).length = m) (h : w.ownsRow base e m v n (rowsOf cs xs)) (hl : xs.length = n) (hf : ∀ i, i < n → fit (xs.getD i d)) : ∃ a c, v = .slice a n c ∧ RowsAt w base w.heap.size m cs fit d a n c xs := by
  rcases h.2 with ⟨rfl, rfl⟩ | ⟨g, cap, cur, rfl, hg, hgg, h1, h2, _⟩
  · exact ⟨none, 0, rfl, hl, Nat.le_refl _, Nat.zero_le _, hf, fun h => absurd h (Nat.lt_irrefl _)⟩
  · refine ⟨_, _, rfl, hl, h1, h2, hf, fun hn => ⟨g, 0, rfl, h.lt g rfl, fun i hi j hj => ?_⟩⟩
    have hlen : i * m + j < n * m := by
      have : (i + 1) * m ≤ n * m := Nat.mul_le_mul_right m (by omega)
      rw [Nat.add_mul] at this; omega
    rw [Nat.zero_add, h.cellAt (i * m + j) hlen, rowsOf_get hm d xs i j (by omega) hj]
theorem owns_set {w : World} {base e size : Nat} {v : Value} {n : Nat} {xs : List Value} (h : w.ownsRow base e size v n xs) {p : Addr} (hp : ∀ g, v.ownBlock = some g → p.block ≠ g) (u : Value) : (w.setCell p u).ownsRow base e size v n xs := by
  refine ⟨h.1, ?_⟩
  rcases h.2 with hn | ⟨g, cap, cur, rfl, hbg, hgg, rest⟩
  · exact .inl hn
  · exact .inr ⟨g, cap, cur, rfl, hbg, (Below.heap_setCell w p u g (fun e => hp g rfl e.symm)).trans hgg, rest⟩
theorem owns_base {w : World} {base base' e size : Nat} {v : Value} {n : Nat} {xs : List Value} (h : w.ownsRow base e size v n xs) (hb : base' ≤ base) : w.ownsRow base' e size v n xs := by
  refine ⟨h.1, ?_⟩
  rcases h.2 with hn | ⟨g, cap, cur, rfl, hbg, rest⟩
  · exact .inl hn
  · exact .inr ⟨g, cap, cur, rfl, Nat.le_trans hb hbg, rest⟩
theorem kc2 : ∀ x, (kidCells x).length = 2 := fun _ => rfl
theorem ec4 : ∀ x, (entCells x).length = 4 := fun _ => rfl
end Go.Proofs.Yteienboknicpjaa
namespace Go.Proofs.Yteienboknicpjaa
open Go.RowKit
set_option linter.unusedVariables false
set_option maxRecDepth 100000

theorem owns_someD {w : World} {base e size n c : Nat} {a : Option Addr} {xs : List Value} (h : w.ownsRow base e size (.slice a n c) n xs) (hn : 0 < n) : ∃ g, a = some ⟨g, 0, none⟩ := by
  rcases h.2 with ⟨h0, h1⟩ | ⟨g, cap, cur, h0, _⟩
  · omega
  · injection h0 with h1; exact ⟨g, h1⟩
/-- The cursor of a draw. -/
def DCur (w : World) (C A B : Nat) : Prop :=
  B ≤ C ∧ ∃ (a : Option Addr) (n c : Nat) (bs : List Int) (i : Nat) (h : Int), w.heap[C]? = some (.cells #[.slice a n c, .int .i64 i, .int .i64 h] 77) ∧ i ≤ n ∧ BytesAt w A B a n c bs
theorem and_255 (y : Int) : 0 ≤ bits .and .i64 y 255 ∧ bits .and .i64 y 255 ≤ 255 := by
  have h : bits .and .i64 y 255 = IntKind.i64.wrap ((BitVec.ofInt 64 y &&& BitVec.ofInt 64 255).toNat : Int) := rfl
  have h2 : (BitVec.ofInt 64 y &&& BitVec.ofInt 64 255).toNat ≤ 255 := by
    rw [BitVec.toNat_and]
    exact Nat.le_trans Nat.and_le_right (by decide)
  rw [h, IntKind.wrap_i64]
  omega
theorem box_three {w : World} {N : Nat} {v0 v1 v2 : Value} {t : TypeId} (h : w.heap[N]? = some (.cells #[v0, v1, v2] t)) : w.cell? ⟨N, 0, none⟩ = some v0 ∧ w.cell? ⟨N, 1, none⟩ = some v1 ∧ w.cell? ⟨N, 2, none⟩ = some v2 := by
  simp [World.cell?, h]
theorem box_thaw {w : World} {M t : Nat} {cs : Array Value} (h : w.heap[M]? = some (.cells cs t)) (j : Nat) : w.frozen? ⟨M, j, none⟩ = false := by simp [World.frozen?, h]
theorem getD_byteD {bs : List Int} (hw : ∀ x ∈ bs, 0 ≤ x ∧ x ≤ 255) (k : Nat) : 0 ≤ bs.getD k 0 ∧ bs.getD k 0 ≤ 255 := by
  by_cases h : k < bs.length
  · rw [show bs.getD k 0 = bs[k] by simp [List.getD, h]]; exact hw _ (List.getElem_mem h)
  · rw [show bs.getD k 0 = 0 by simp [List.getD, Nat.le_of_not_lt h]]; omega
set_option maxHeartbeats 800000 in
theorem l1Byte_any (C A B : Nat) (w : World) (h : DCur w C A B) (hBw : B ≤ w.heap.size) :
    Calls Try.prog 45 #[.pointer (some ⟨C, 0, none⟩)] w fun e w' => ∃ x : Nat, e = .returned (.int .i64 x) ∧ x ≤ 255 ∧ DCur w' C A B ∧ Fr (fun g => g = C) w w' := by
  obtain ⟨hBC, a, n, c, bs, i, hh, hbox, hi, hb⟩ := h
  have hc := hb.2.2.1
  have hnc := hb.2.1
  unfold maxLen at hc
  have hCl := (Array.getElem?_eq_some_iff.1 hbox).1
  obtain ⟨c0, c1, c2⟩ := box_three hbox
  have ff := box_thaw hbox
  go_enter Try.func45, Try.ntmps45
  go_wp2_with fail
  have hbox1 : (w.setCell ⟨C, 2, none⟩ (.int .i64 (wrap64 (wrap64 (hh * 6364136223846793005) + 1442695040888963407)))).heap[C]? = some (.cells #[.slice a n c, .int .i64 i, .int .i64 (wrap64 (wrap64 (hh * 6364136223846793005) + 1442695040888963407))] 77) := by simp [World.setCell, Array.getElem?_modify, hbox]
  have hF1 : Fr (fun g => g = C) w (w.setCell ⟨C, 2, none⟩ (.int .i64 (wrap64 (wrap64 (hh * 6364136223846793005) + 1442695040888963407)))) := ⟨rfl, rfl, rfl, by simp [World.setCell], fun k _ hk => Below.heap_setCell w _ _ k hk⟩
  generalize w.setCell ⟨C, 2, none⟩ (.int .i64 (wrap64 (wrap64 (hh * 6364136223846793005) + 1442695040888963407))) = w1 at hbox1 hF1 ⊢
  generalize wrap64 (wrap64 (hh * 6364136223846793005) + 1442695040888963407) = h1 at hbox1
  have hb1 : BytesAt w1 A B a n c bs := hb.keep (fun k k1 k2 => hF1.block k (by omega) (by omega))
  clear c0 c1 c2 ff hb hbox
  obtain ⟨c0, c1, c2⟩ := box_three hbox1
  have ff := box_thaw hbox1
  go_quiet (fail)
  have hx := and_255 (bits .xor .i64 (h1 / 8589934592) (h1 / 35184372088832))
  generalize bits .and .i64 (bits .xor .i64 (h1 / 8589934592) (h1 / 35184372088832)) 255 = x0 at hx ⊢
  obtain ⟨x, rfl⟩ : ∃ x : Nat, x0 = (x : Int) := ⟨x0.toNat, by omega⟩
  have hbox2 : (w1.drewN nq).heap[C]? = some (.cells #[.slice a n c, .int .i64 i, .int .i64 h1] 77) := hbox1
  have hb2 : BytesAt (w1.drewN nq) A B a n c bs := hb1
  have hF2 : Fr (fun g => g = C) w (w1.drewN nq) := hF1.trans (Fr.of_below ⟨rfl, rfl, rfl, Nat.le_refl _, fun _ _ => rfl⟩)
  generalize w1.drewN nq = w2 at hbox2 hb2 hF2 ⊢
  clear c0 c1 c2 ff hbox1 hb1 hF1
  obtain ⟨c0, c1, c2⟩ := box_three hbox2
  have ff := box_thaw hbox2
  have hs2 := hF2.size
  by_cases hlt : i < n
  · obtain ⟨g, o, rfl, hg, hcell⟩ := hb2.2.2.2.2.1 (by omega)
    have hgC : g ≠ C := by omega
    have e1 := hcell i hlt
    clear hcell
    go_wp2_with fail
    go_quiet (fail)
    have hboxb : (w2.drewN nq).heap[C]? = some (.cells #[.slice (some ⟨g, o, none⟩) n c, .int .i64 i, .int .i64 h1] 77) := hbox2
    have hbb : BytesAt (w2.drewN nq) A B (some ⟨g, o, none⟩) n c bs := hb2
    have hFb : Fr (fun g => g = C) w (w2.drewN nq) := hF2.trans (Fr.of_below ⟨rfl, rfl, rfl, Nat.le_refl _, fun _ _ => rfl⟩)
    have e2 : (w2.drewN nq).cell? ⟨g, o + i, none⟩ = some (.int .u8 (bs.getD i 0)) := e1
    generalize w2.drewN nq = wb at hboxb hbb hFb e2 ⊢
    clear c0 c1 c2 ff hbox2 hb2 hF2 e1
    obtain ⟨c0, c1, c2⟩ := box_three hboxb
    generalize bs.getD i 0 = y at e2
    go_wp2_with fail
    go_quiet (fail)
    have hz := and_255 (wrap64 ((x : Int) + wrap64 y))
    generalize bits .and .i64 (wrap64 ((x : Int) + wrap64 y)) 255 = z0 at hz ⊢
    obtain ⟨z, rfl⟩ : ∃ z : Nat, z0 = (z : Int) := ⟨z0.toNat, by omega⟩
    have hbox3 : (wb.drewN nq).heap[C]? = some (.cells #[.slice (some ⟨g, o, none⟩) n c, .int .i64 i, .int .i64 h1] 77) := hboxb
    have hb3 : BytesAt (wb.drewN nq) A B (some ⟨g, o, none⟩) n c bs := hbb
    have hF3 : Fr (fun g => g = C) w (wb.drewN nq) := hFb.trans (Fr.of_below ⟨rfl, rfl, rfl, Nat.le_refl _, fun _ _ => rfl⟩)
    generalize wb.drewN nq = w3 at hbox3 hb3 hF3 ⊢
    have hs3 := hF3.size
    clear c0 c1 c2 hboxb hbb hFb e2
    obtain ⟨c0, c1, c2⟩ := box_three hbox3
    have ff := box_thaw hbox3
    have hbox4 : (w3.setCell ⟨C, 1, none⟩ (.int .i64 ((i : Int) + 1))).heap[C]? = some (.cells #[.slice (some ⟨g, o, none⟩) n c, .int .i64 ((i : Int) + 1), .int .i64 h1] 77) := by simp [World.setCell, Array.getElem?_modify, hbox3]
    have hF4 : Fr (fun g => g = C) w3 (w3.setCell ⟨C, 1, none⟩ (.int .i64 ((i : Int) + 1))) := ⟨rfl, rfl, rfl, by simp [World.setCell], fun k _ hk => Below.heap_setCell w3 _ _ k hk⟩
    have hb4 : BytesAt (w3.setCell ⟨C, 1, none⟩ (.int .i64 ((i : Int) + 1))) A B (some ⟨g, o, none⟩) n c bs := hb3.keep (fun k k1 k2 => hF4.block k (by omega) (by omega))
    go_wp2
    go_ret
    exact ⟨z, rfl, by omega, ⟨hBC, _, n, c, bs, i + 1, h1, hbox4, by omega, hb4⟩, hF3.trans hF4⟩
  · go_wp2_with fail
    go_quiet (fail)
    go_wp2
    go_ret
    exact ⟨x, rfl, by omega, ⟨hBC, a, n, c, bs, i, h1, hbox2, hi, hb2⟩, hF2.trans (Fr.of_below ⟨rfl, rfl, rfl, Nat.le_refl _, fun _ _ => rfl⟩)⟩
set_option maxHeartbeats 800000 in
theorem l1New_any (a : Option Addr) (n c : Nat) (bs : List Int) (w : World) (A B : Nat) (hB : B ≤ w.heap.size) (h : BytesAt w A B a n c bs) :
    Calls Try.prog 13 #[.slice a n c] w fun e w' => ∃ C, e = .returned (.pointer (some ⟨C, 0, none⟩)) ∧ w.heap.size ≤ C ∧ DCur w' C A B ∧ Below w.heap.size w w' := by
  have hc := h.2.2.1
  have hnc := h.2.1
  have hcell := h.2.2.2.2.1
  unfold maxLen at hc
  go_enter Try.func13, Try.ntmps13
  go_wp2
  go_loop [3, 4] (fun hv i => ∃ (k : Nat) (x : Int), k ≤ n ∧ i = .int .i64 k ∧ hv = .int .i64 x) (fun _ i => n - (intOf i).toNat)
  case atStart => exact ⟨0, _, Nat.zero_le _, rfl, rfl⟩
  case round =>
    obtain ⟨k, x, hk, rfl, rfl⟩ := hrel
    by_cases hlt : k < n
    · obtain ⟨b, off, rfl, hb, hcb⟩ := hcell (by omega)
      have e1 := hcb k hlt
      clear hcell hcb
      go_wp2
      go_round
      case rel => exact ⟨k + 1, _, by omega, by go_num, rfl⟩
      case measure => simp [intOf]; omega
    · clear hcell
      have hbox := heap_alloc_new w (.cells #[.slice a n c, .int .i64 0, .int .i64 x] 77)
      have hb1 : Below w.heap.size w (w.alloc (.cells #[.slice a n c, .int .i64 0, .int .i64 x] 77)) := (Below.refl _ _).alloc (Nat.le_refl _) _
      go_wp2
      go_ret
      exact ⟨w.heap.size, rfl, Nat.le_refl _, ⟨hB, a, n, c, bs, 0, x, hbox, Nat.zero_le _, h.below (hb1.mono hB)⟩, hb1⟩
theorem DCur.fr {w w' : World} {C A B : Nat} (h : DCur w C A B) (hf : Fr (fun g => g = C) w w') (hB : B ≤ w.heap.size) : B ≤ w'.heap.size := Nat.le_trans hB hf.size
theorem DCur.below {w w' : World} {C A B : Nat} (h : DCur w C A B) (hb : Below w.heap.size w w') : DCur w' C A B := by
  obtain ⟨hBC, a, n, c, bs, i, hh, hbox, hi, hby⟩ := h
  have hl := (Array.getElem?_eq_some_iff.1 hbox).1
  exact ⟨hBC, a, n, c, bs, i, hh, (hb.block C hl).trans hbox, hi, hby.below (hb.mono (by omega))⟩
theorem DCur.lt {w : World} {C A B : Nat} (h : DCur w C A B) : C < w.heap.size := by
  obtain ⟨hBC, a, n, c, bs, i, hh, hbox, hi, hby⟩ := h
  exact (Array.getElem?_eq_some_iff.1 hbox).1
theorem DCur.le {w : World} {C A B : Nat} (h : DCur w C A B) : B ≤ w.heap.size := Nat.le_of_lt (Nat.lt_of_le_of_lt h.1 h.lt)
/-- What a draw gives, and leaves. -/
def DPost (C A B : Nat) (w w' : World) : Prop := DCur w' C A B ∧ Fr (fun g => g = C) w w'
set_option maxHeartbeats 800000 in
theorem l1Below_any (C A B : Nat) (w : World) (h : DCur w C A B) (m : Int) (h1 : 1 ≤ m) (h2 : m ≤ 4294967296) :
    Calls Try.prog 16 #[.pointer (some ⟨C, 0, none⟩), .int .i64 m] w fun e w' => ∃ x : Nat, e = .returned (.int .i64 x) ∧ (x : Int) < m ∧ DCur w' C A B ∧ Fr (fun g => g = C) w w' := by
  go_enter Try.func16, Try.ntmps16
  have hm0 : m ≠ 0 := by omega
  by_cases hm : m ≤ 256
  · go_wp2_with fail
    refine (l1Byte_any C A B w h h.le).mono ?_
    rintro e w1 ⟨x, rfl, hx, hD, hF⟩
    go_wp2
    obtain ⟨r, hr⟩ : ∃ r : Nat, (x : Int) % m = (r : Int) := ⟨((x : Int) % m).toNat, (Int.toNat_of_nonneg (Int.emod_nonneg _ hm0)).symm⟩
    have hlt := Int.emod_lt_of_pos (x : Int) (show 0 < m by omega)
    rw [hr] at hlt ⊢
    go_ret
    exact ⟨r, rfl, hlt, hD, hF⟩
  · go_wp2_with fail
    refine (l1Byte_any C A B w h h.le).mono ?_
    rintro e w1 ⟨x, rfl, hx, hD1, hF1⟩
    go_wp2_with fail
    refine (l1Byte_any C A B w1 hD1 hD1.le).mono ?_
    rintro e w2 ⟨y, rfl, hy, hD2, hF2⟩
    go_wp2_with fail
    refine (l1Byte_any C A B w2 hD2 hD2.le).mono ?_
    rintro e w3 ⟨z, rfl, hz, hD3, hF3⟩
    go_wp2
    obtain ⟨r, hr⟩ : ∃ r : Nat, ((x : Int) * 65536 + (y : Int) * 256 + (z : Int)) % m = (r : Int) := ⟨(((x : Int) * 65536 + (y : Int) * 256 + (z : Int)) % m).toNat, (Int.toNat_of_nonneg (Int.emod_nonneg _ hm0)).symm⟩
    have hlt := Int.emod_lt_of_pos ((x : Int) * 65536 + (y : Int) * 256 + (z : Int)) (show 0 < m by omega)
    rw [hr] at hlt ⊢
    go_ret
    exact ⟨r, rfl, hlt, hD3, (hF1.trans hF2).trans hF3⟩
theorem l1Once_any (C A B : Nat) (w : World) (h : DCur w C A B) (m : Int) (h1 : 1 ≤ m) (h2 : m ≤ 4294967296) :
    Calls Try.prog 43 #[.pointer (some ⟨C, 0, none⟩), .int .i64 m] w fun e w' => ∃ b : Bool, e = .returned (.bool b) ∧ DCur w' C A B ∧ Fr (fun g => g = C) w w' := by
  go_enter Try.func43, Try.ntmps43
  go_wp2_with fail
  refine (l1Below_any C A B w h m h1 h2).mono ?_
  rintro e w1 ⟨x, rfl, hx, hD, hF⟩
  go_wp2
  go_ret
  exact ⟨_, rfl, hD, hF⟩
end Go.Proofs.Yteienboknicpjaa
