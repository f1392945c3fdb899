import Derived.Test.YtpmagndofiaooaaPgM
namespace Go.Proofs.Ytpmagndofiaooaa
open Go.RowKit
set_option linter.unusedVariables false
set_option maxRecDepth 100000

/-- Lists of texts and of numbers behind a slice. -/
def strCells (s : ByteArray) : List Value := [.string s]
def intCells (x : Int) : List Value := [.int .i64 x]
def strFit (s : ByteArray) : Prop := s.size ≤ maxLen
abbrev StrsAt (w : World) (A B : Nat) (a : Option Addr) (n c : Nat) (xs : List ByteArray) : Prop := RowsAt w A B 1 strCells strFit ByteArray.empty a n c xs
abbrev IntsAt (w : World) (A B : Nat) (a : Option Addr) (n c : Nat) (xs : List Int) : Prop := RowsAt w A B 1 intCells I64 0 a n c xs
theorem sc1 : ∀ x, (strCells x).length = 1 := fun _ => rfl
theorem ic1 : ∀ x, (intCells x).length = 1 := fun _ => rfl
theorem StrsAt.at {w : World} {A B : Nat} {a : Option Addr} {n c : Nat} {xs : List ByteArray} (h : StrsAt w A B a n c xs) {i : Nat} (hi : i < n) :
    ∃ b off, a = some ⟨b, off, none⟩ ∧ (A ≤ b ∧ b < B) ∧ (xs.getD i ByteArray.empty).size ≤ maxLen ∧ w.cell? ⟨b, off + i, none⟩ = some (.string (xs.getD i ByteArray.empty)) := by
  obtain ⟨h1, h2, h3, h4, h5⟩ := h
  obtain ⟨b, off, rfl, hlt, hc⟩ := h5 (by omega)
  exact ⟨b, off, rfl, hlt, h4 i hi, by simpa [strCells] using hc i hi 0 (by omega)⟩
theorem IntsAt.at {w : World} {A B : Nat} {a : Option Addr} {n c : Nat} {xs : List Int} (h : IntsAt w A B a n c xs) {i : Nat} (hi : i < n) :
    ∃ b off, a = some ⟨b, off, none⟩ ∧ (A ≤ b ∧ b < B) ∧ I64 (xs.getD i 0) ∧ w.cell? ⟨b, off + i, none⟩ = some (.int .i64 (xs.getD i 0)) := by
  obtain ⟨h1, h2, h3, h4, h5⟩ := h
  obtain ⟨b, off, rfl, hlt, hc⟩ := h5 (by omega)
  exact ⟨b, off, rfl, hlt, h4 i hi, by simpa [intCells] using hc i hi 0 (by omega)⟩

/-- A node of a tree as it is told, as plain data. -/
structure TN where
  leaf : Bool
  page : Int
  keys : List ByteArray
  vals : List ByteArray
  over : List Int
  kids : List Int
def dT : TN := ⟨false, 0, [], [], [], []⟩
/-- One node at an address. -/
structure TNodeIs (w : World) (A B b o : Nat) (t : TN) (ka : Option Addr) (kn kc : Nat) (va : Option Addr) (vn vc : Nat) (oa : Option Addr) (on oc : Nat) (ya : Option Addr) (yn yc : Nat) : Prop where
  c0 : w.cell? ⟨b, o, none⟩ = some (.bool t.leaf)
  c1 : w.cell? ⟨b, o + 1, none⟩ = some (.int .i64 t.page)
  c2 : w.cell? ⟨b, o + 2, none⟩ = some (.slice ka kn kc)
  c3 : w.cell? ⟨b, o + 3, none⟩ = some (.slice va vn vc)
  c4 : w.cell? ⟨b, o + 4, none⟩ = some (.slice oa on oc)
  c5 : w.cell? ⟨b, o + 5, none⟩ = some (.slice ya yn yc)
  page : I64 t.page
  keys : StrsAt w A B ka kn kc t.keys
  vals : StrsAt w A B va vn vc t.vals
  over : IntsAt w A B oa on oc t.over
  kids : IntsAt w A B ya yn yc t.kids
def NodesAt (w : World) (A B : Nat) (a : Option Addr) (n c : Nat) (ts : List TN) : Prop :=
  ts.length = n ∧ n ≤ c ∧ c ≤ maxLen ∧ (0 < n → ∃ b off, a = some ⟨b, off, none⟩ ∧ (A ≤ b ∧ b < B) ∧ ∀ i, i < n → ∃ ka kn kc va vn vc oa on oc ya yn yc, TNodeIs w A B b (off + i * 6) (ts.getD i dT) ka kn kc va vn vc oa on oc ya yn yc)
theorem TNodeIs.keep {w w' : World} {A B b o : Nat} {t : TN} {ka va oa ya : Option Addr} {kn kc vn vc on oc yn yc : Nat} (h : TNodeIs w A B b o t ka kn kc va vn vc oa on oc ya yn yc) (hlt : A ≤ b ∧ b < B) (hk : Keeps A B w w') : TNodeIs w' A B b o t ka kn kc va vn vc oa on oc ya yn yc :=
  ⟨(hk.cell hlt.1 hlt.2).trans h.c0, (hk.cell hlt.1 hlt.2).trans h.c1, (hk.cell hlt.1 hlt.2).trans h.c2, (hk.cell hlt.1 hlt.2).trans h.c3, (hk.cell hlt.1 hlt.2).trans h.c4, (hk.cell hlt.1 hlt.2).trans h.c5, h.page, h.keys.keep hk, h.vals.keep hk, h.over.keep hk, h.kids.keep hk⟩
theorem TNodeIs.up {w : World} {A B A' B' b o : Nat} {t : TN} {ka va oa ya : Option Addr} {kn kc vn vc on oc yn yc : Nat} (h : TNodeIs w A B b o t ka kn kc va vn vc oa on oc ya yn yc) (hA : A' ≤ A) (hB : B ≤ B') : TNodeIs w A' B' b o t ka kn kc va vn vc oa on oc ya yn yc :=
  ⟨h.c0, h.c1, h.c2, h.c3, h.c4, h.c5, h.page, h.keys.up hA hB, h.vals.up hA hB, h.over.up hA hB, h.kids.up hA hB⟩
theorem NodesAt.keep {w w' : World} {A B : Nat} {a : Option Addr} {n c : Nat} {ts : List TN} (h : NodesAt w A B a n c ts) (hk : Keeps A B w w') : NodesAt w' A B a n c ts := by
  obtain ⟨h1, h2, h3, h4⟩ := h
  refine ⟨h1, h2, h3, fun hn => ?_⟩
  obtain ⟨b, off, rfl, hlt, hc⟩ := h4 hn
  refine ⟨b, off, rfl, hlt, fun i hi => ?_⟩
  obtain ⟨ka, kn, kc, va, vn, vc, oa, on, oc, ya, yn, yc, h⟩ := hc i hi
  exact ⟨ka, kn, kc, va, vn, vc, oa, on, oc, ya, yn, yc, h.keep hlt hk⟩
theorem NodesAt.below {w w' : World} {A B : Nat} {a : Option Addr} {n c : Nat} {ts : List TN} (h : NodesAt w A B a n c ts) (hb : Below B w w') : NodesAt w' A B a n c ts := h.keep (.of_below hb)
theorem NodesAt.up {w : World} {A B A' B' : Nat} {a : Option Addr} {n c : Nat} {ts : List TN} (h : NodesAt w A B a n c ts) (hA : A' ≤ A) (hB : B ≤ B') : NodesAt w A' B' a n c ts := by
  obtain ⟨h1, h2, h3, h4⟩ := h
  refine ⟨h1, h2, h3, fun hn => ?_⟩
  obtain ⟨b, off, rfl, hlt, hc⟩ := h4 hn
  refine ⟨b, off, rfl, ⟨by omega, by omega⟩, fun i hi => ?_⟩
  obtain ⟨ka, kn, kc, va, vn, vc, oa, on, oc, ya, yn, yc, h⟩ := hc i hi
  exact ⟨ka, kn, kc, va, vn, vc, oa, on, oc, ya, yn, yc, h.up hA hB⟩
theorem NodesAt.at {w : World} {A B : Nat} {a : Option Addr} {n c : Nat} {ts : List TN} (h : NodesAt w A B a n c ts) {i : Nat} (hi : i < n) :
    ∃ b off, a = some ⟨b, off, none⟩ ∧ (A ≤ b ∧ b < B) ∧ ∃ ka kn kc va vn vc oa on oc ya yn yc, TNodeIs w A B b (off + i * 6) (ts.getD i dT) ka kn kc va vn vc oa on oc ya yn yc := by
  obtain ⟨h1, h2, h3, h4⟩ := h
  obtain ⟨b, off, rfl, hlt, hc⟩ := h4 (by omega)
  exact ⟨b, off, rfl, hlt, hc i hi⟩
/-- What weighs in a node. -/
def wStrs : List ByteArray → Int
  | [] => 0
  | s :: r => s.size + 1 + wStrs r
def wTN (t : TN) : Int := wStrs t.keys + wStrs t.vals + t.over.length + t.kids.length
def wTNs : List TN → Int
  | [] => 0
  | t :: r => wTN t + 1 + wTNs r
theorem wStrs_append (xs ys : List ByteArray) : wStrs (xs ++ ys) = wStrs xs + wStrs ys := by
  induction xs with
  | nil => simp [wStrs]
  | cons x r ih => simp [wStrs, ih]; omega
theorem wTNs_append (xs ys : List TN) : wTNs (xs ++ ys) = wTNs xs + wTNs ys := by
  induction xs with
  | nil => simp [wTNs]
  | cons x r ih => simp [wTNs, ih]; omega
theorem wStrs_len (xs : List ByteArray) : (xs.length : Int) ≤ wStrs xs := by
  induction xs with
  | nil => simp [wStrs]
  | cons x r ih => simp [wStrs]; omega
theorem wTN_nonneg (t : TN) : 0 ≤ wTN t := by
  have h1 := wStrs_len t.keys
  have h2 := wStrs_len t.vals
  unfold wTN; omega
theorem wTNs_len (xs : List TN) : (xs.length : Int) ≤ wTNs xs := by
  induction xs with
  | nil => simp [wTNs]
  | cons x r ih => have := wTN_nonneg x; simp [wTNs]; omega
theorem wStrs_get (xs : List ByteArray) (i : Nat) (h : i < xs.length) : ((xs.getD i ByteArray.empty).size : Int) ≤ wStrs xs := by
  induction xs generalizing i with
  | nil => simp at h
  | cons x r ih =>
    have := wStrs_len r
    cases i with
    | zero => simp [wStrs]; omega
    | succ i => have := ih i (by simpa using h); simp [wStrs] at this ⊢; omega
theorem wTNs_get (xs : List TN) (i : Nat) (h : i < xs.length) : wTN (xs.getD i dT) ≤ wTNs xs := by
  induction xs generalizing i with
  | nil => simp at h
  | cons x r ih =>
    have := wTNs_len r
    have h9 := wTN_nonneg x
    cases i with
    | zero => simp [wTNs]; omega
    | succ i => have := ih i (by simpa using h); simp [wTNs] at this ⊢; omega
end Go.Proofs.Ytpmagndofiaooaa
