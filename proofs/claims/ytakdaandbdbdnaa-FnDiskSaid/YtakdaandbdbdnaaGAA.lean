import Derived.WalkKit
import Derived.ProofKit
import Derived.OpenShut
import Derived.Below
import Derived.Deep.RegionHeld3
import Derived.Test.YtakdaandbdbdnaaChecked
import Derived.OwnWalk
import Derived.Deep.QuietTactic
import Derived.BigQuiet
import Derived.Deep.RegionWith
import Derived.Laws.AppendOwnNone
import Derived.Deep.RegionLaw
import Derived.WalkSpells
import Derived.WalkLawsBesides
import Derived.Laws.IdiomStrings
namespace Go.Proofs.Ytakdaandbdbdnaa
open Go.RowKit
set_option linter.unusedVariables false
set_option linter.unusedSimpArgs false
set_option maxRecDepth 100000
theorem bcell {W w1 : World} (hb : Below W.heap.size W w1) : (∀ b o, b < W.heap.size → w1.cell? ⟨b, o, none⟩ = W.cell? ⟨b, o, none⟩) ∧ (∀ b o, b < W.heap.size → w1.frozen? ⟨b, o, none⟩ = W.frozen? ⟨b, o, none⟩) :=
 ⟨fun b o h => hb.cell (p := ⟨b, o, none⟩) h, fun b o h => hb.frozen (p := ⟨b, o, none⟩) h⟩
theorem lt_of_cell {w : World} {b o : Nat} {v : Value} (h : w.cell? ⟨b, o, none⟩ = some v) : b < w.heap.size := by
 by_cases hb : b < w.heap.size
 ·exact hb
 ·simp [World.cell?, Array.getElem?_eq_none (Nat.le_of_not_lt hb)] at h
abbrev PF := ByteArray × List Int
abbrev PP := ByteArray × Int × List Int
def BytesAt (w : World) (A B : Nat) (a : Option Addr) (n c : Nat) (bs : List Int) : Prop :=
 bs.length = n ∧ n ≤ c ∧ c ≤ maxLen ∧ (∀ x ∈ bs, 0 ≤ x ∧ x ≤ 255) ∧ (0 < n → ∃ b off, a = some ⟨b, off, none⟩ ∧ (A ≤ b ∧ b < B) ∧ ∀ i, i < n → w.cell? ⟨b, off + i, none⟩ = some (.int .u8 (bs.getD i 0))) ∧ (a = none → c = 0)
def Keeps (A B : Nat) (w w' : World) : Prop := ∀ k, A ≤ k → k < B → w'.heap[k]? = w.heap[k]?
theorem Keeps.of_below {A B : Nat} {w w' : World} (h : Below B w w') : Keeps A B w w' := fun k _ hk => h.block k hk
theorem Keeps.refl (A B : Nat) (w : World) : Keeps A B w w := fun _ _ _ => rfl
theorem Keeps.set {A B : Nat} {w w' : World} (h : Keeps A B w w') {p : Addr} (hp : p.block < A ∨ B ≤ p.block) (u : Value) : Keeps A B w (w'.setCell p u) :=
 fun k h1 h2 => (Below.heap_setCell w' p u k (by omega)).trans (h k h1 h2)
theorem Keeps.cell {A B : Nat} {w w' : World} (h : Keeps A B w w') {b o : Nat} (h1 : A ≤ b) (h2 : b < B) : w'.cell? ⟨b, o, none⟩ = w.cell? ⟨b, o, none⟩ := World.cell?_of_block (w := w) (a := ⟨b, o, none⟩) (h b h1 h2)
theorem BytesAt.keep {w w' : World} {A B : Nat} {a : Option Addr} {n c : Nat} {bs : List Int} (h : BytesAt w A B a n c bs) (hk : Keeps A B w w') : BytesAt w' A B a n c bs := by
 obtain ⟨h1, h2, h3, h4, h5, h6⟩ := h
 refine ⟨h1, h2, h3, h4, fun hn => ?_, h6⟩
 obtain ⟨b, off, rfl, hlt, hc⟩ := h5 hn
 exact ⟨b, off, rfl, hlt, fun i hi => (hk.cell hlt.1 hlt.2).trans (hc i hi)⟩
theorem BytesAt.below {w w' : World} {A B : Nat} {a : Option Addr} {n c : Nat} {bs : List Int} (h : BytesAt w A B a n c bs) (hb : Below B w w') : BytesAt w' A B a n c bs := h.keep (.of_below hb)
theorem BytesAt.up {w : World} {A B A' B' : Nat} {a : Option Addr} {n c : Nat} {bs : List Int} (h : BytesAt w A B a n c bs) (hA : A' ≤ A) (hB : B ≤ B') : BytesAt w A' B' a n c bs := by
 obtain ⟨h1, h2, h3, h4, h5, h6⟩ := h
 refine ⟨h1, h2, h3, h4, fun hn => ?_, h6⟩
 obtain ⟨b, off, rfl, hlt, hc⟩ := h5 hn
 exact ⟨b, off, rfl, ⟨by omega, by omega⟩, hc⟩
def FileIs (w : World) (A B b o : Nat) (f : PF) : Prop :=
 w.cell? ⟨b, o, none⟩ = some (.string f.1) ∧ f.1.size ≤ maxLen ∧ ∃ a n c, w.cell? ⟨b, o + 1, none⟩ = some (.slice a n c) ∧ BytesAt w A B a n c f.2
def FilesAt (w : World) (A B : Nat) (a : Option Addr) (n c : Nat) (fs : List PF) : Prop :=
 fs.length = n ∧ n ≤ c ∧ c ≤ maxLen ∧ (0 < n → ∃ b off, a = some ⟨b, off, none⟩ ∧ (A ≤ b ∧ b < B) ∧ ∀ i, i < n → FileIs w A B b (off + i * 2) (fs.getD i (ByteArray.empty, [])))
def PendIs (w : World) (A B b o : Nat) (p : PP) : Prop :=
 w.cell? ⟨b, o, none⟩ = some (.string p.1) ∧ p.1.size ≤ maxLen ∧ w.cell? ⟨b, o + 1, none⟩ = some (.int .i64 p.2.1) ∧ (-9223372036854775808 ≤ p.2.1 ∧ p.2.1 ≤ 9223372036854775807) ∧ ∃ a n c, w.cell? ⟨b, o + 2, none⟩ = some (.slice a n c) ∧ BytesAt w A B a n c p.2.2
def PendsAt (w : World) (A B : Nat) (a : Option Addr) (n c : Nat) (ps : List PP) : Prop :=
 ps.length = n ∧ n ≤ c ∧ c ≤ maxLen ∧ (0 < n → ∃ b off, a = some ⟨b, off, none⟩ ∧ (A ≤ b ∧ b < B) ∧ ∀ i, i < n → PendIs w A B b (off + i * 3) (ps.getD i (ByteArray.empty, 0, [])))
theorem FileIs.keep {w w' : World} {A B b o : Nat} {f : PF} (h : FileIs w A B b o f) (hlt : A ≤ b ∧ b < B) (hk : Keeps A B w w') : FileIs w' A B b o f := by
 obtain ⟨h1, h2, a, n, c, h3, hz⟩ := h
 exact ⟨(hk.cell hlt.1 hlt.2).trans h1, h2, a, n, c, (hk.cell hlt.1 hlt.2).trans h3, hz.keep hk⟩
theorem FileIs.below {w w' : World} {A B b o : Nat} {f : PF} (h : FileIs w A B b o f) (hlt : A ≤ b ∧ b < B) (hb : Below B w w') : FileIs w' A B b o f := h.keep hlt (.of_below hb)
theorem FileIs.up {w : World} {A B A' B' b o : Nat} {f : PF} (h : FileIs w A B b o f) (hA : A' ≤ A) (hB : B ≤ B') : FileIs w A' B' b o f := by
 obtain ⟨h1, h2, a, n, c, h3, hz⟩ := h
 exact ⟨h1, h2, a, n, c, h3, hz.up hA hB⟩
theorem FilesAt.keep {w w' : World} {A B : Nat} {a : Option Addr} {n c : Nat} {fs : List PF} (h : FilesAt w A B a n c fs) (hk : Keeps A B w w') : FilesAt w' A B a n c fs := by
 obtain ⟨h1, h2, h3, h4⟩ := h
 refine ⟨h1, h2, h3, fun hn => ?_⟩
 obtain ⟨b, off, rfl, hlt, hc⟩ := h4 hn
 exact ⟨b, off, rfl, hlt, fun i hi => (hc i hi).keep hlt hk⟩
theorem FilesAt.below {w w' : World} {A B : Nat} {a : Option Addr} {n c : Nat} {fs : List PF} (h : FilesAt w A B a n c fs) (hb : Below B w w') : FilesAt w' A B a n c fs := h.keep (.of_below hb)
theorem FilesAt.up {w : World} {A B A' B' : Nat} {a : Option Addr} {n c : Nat} {fs : List PF} (h : FilesAt w A B a n c fs) (hA : A' ≤ A) (hB : B ≤ B') : FilesAt w A' B' a n c fs := by
 obtain ⟨h1, h2, h3, h4⟩ := h
 refine ⟨h1, h2, h3, fun hn => ?_⟩
 obtain ⟨b, off, rfl, hlt, hc⟩ := h4 hn
 exact ⟨b, off, rfl, ⟨by omega, by omega⟩, fun i hi => (hc i hi).up hA hB⟩
theorem PendIs.keep {w w' : World} {A B b o : Nat} {f : PP} (h : PendIs w A B b o f) (hlt : A ≤ b ∧ b < B) (hk : Keeps A B w w') : PendIs w' A B b o f := by
 obtain ⟨h1, h2, h3, h4, a, n, c, h5, hz⟩ := h
 exact ⟨(hk.cell hlt.1 hlt.2).trans h1, h2, (hk.cell hlt.1 hlt.2).trans h3, h4, a, n, c, (hk.cell hlt.1 hlt.2).trans h5, hz.keep hk⟩
theorem PendIs.below {w w' : World} {A B b o : Nat} {f : PP} (h : PendIs w A B b o f) (hlt : A ≤ b ∧ b < B) (hb : Below B w w') : PendIs w' A B b o f := h.keep hlt (.of_below hb)
theorem PendIs.up {w : World} {A B A' B' b o : Nat} {f : PP} (h : PendIs w A B b o f) (hA : A' ≤ A) (hB : B ≤ B') : PendIs w A' B' b o f := by
 obtain ⟨h1, h2, h3, h4, a, n, c, h5, hz⟩ := h
 exact ⟨h1, h2, h3, h4, a, n, c, h5, hz.up hA hB⟩
theorem PendsAt.keep {w w' : World} {A B : Nat} {a : Option Addr} {n c : Nat} {fs : List PP} (h : PendsAt w A B a n c fs) (hk : Keeps A B w w') : PendsAt w' A B a n c fs := by
 obtain ⟨h1, h2, h3, h4⟩ := h
 refine ⟨h1, h2, h3, fun hn => ?_⟩
 obtain ⟨b, off, rfl, hlt, hc⟩ := h4 hn
 exact ⟨b, off, rfl, hlt, fun i hi => (hc i hi).keep hlt hk⟩
theorem PendsAt.below {w w' : World} {A B : Nat} {a : Option Addr} {n c : Nat} {fs : List PP} (h : PendsAt w A B a n c fs) (hb : Below B w w') : PendsAt w' A B a n c fs := h.keep (.of_below hb)
theorem PendsAt.up {w : World} {A B A' B' : Nat} {a : Option Addr} {n c : Nat} {fs : List PP} (h : PendsAt w A B a n c fs) (hA : A' ≤ A) (hB : B ≤ B') : PendsAt w A' B' a n c fs := by
 obtain ⟨h1, h2, h3, h4⟩ := h
 refine ⟨h1, h2, h3, fun hn => ?_⟩
 obtain ⟨b, off, rfl, hlt, hc⟩ := h4 hn
 exact ⟨b, off, rfl, ⟨by omega, by omega⟩, fun i hi => (hc i hi).up hA hB⟩
theorem owns_below {w w' : World} {base e size : Nat} {v : Value} {n : Nat} {xs : List Value} (h : w.ownsRow base e size v n xs) (hb : Below w.heap.size w w') : w'.ownsRow base e size v n xs := by
 refine ⟨h.1, ?_⟩
 rcases h.2 with hn | ⟨g, cap, cur, rfl, hbg, hgg, rest⟩
 ·exact .inl hn
 ·refine .inr ⟨g, cap, cur, rfl, hbg, ?_, rest⟩
  rw [hb.block g (Array.getElem?_eq_some_iff.1 hgg).1]
  exact hgg
def GotFiles (w : World) (g0 : Nat) (xs : List Value) (fs : List PF) (k : Nat) : Prop :=
 ∀ j, j < k → (fs.getD j (ByteArray.empty, [])).1.size ≤ maxLen ∧ ∃ g m, xs[j * 2]? = some (.string (fs.getD j (ByteArray.empty, [])).1) ∧ xs[j * 2 + 1]? = some (.slice (some ⟨g, 0, none⟩) m m) ∧ BytesAt w (g0 + 1) w.heap.size (some ⟨g, 0, none⟩) m m (fs.getD j (ByteArray.empty, [])).2
def GotPends (w : World) (g0 : Nat) (xs : List Value) (fs : List PP) (k : Nat) : Prop :=
 ∀ j, j < k → (fs.getD j (ByteArray.empty, 0, [])).1.size ≤ maxLen ∧ (-9223372036854775808 ≤ (fs.getD j (ByteArray.empty, 0, [])).2.1 ∧ (fs.getD j (ByteArray.empty, 0, [])).2.1 ≤ 9223372036854775807) ∧ ∃ g m, xs[j * 3]? = some (.string (fs.getD j (ByteArray.empty, 0, [])).1) ∧ xs[j * 3 + 1]? = some (.int .i64 (fs.getD j (ByteArray.empty, 0, [])).2.1) ∧ xs[j * 3 + 2]? = some (.slice (some ⟨g, 0, none⟩) m m) ∧ BytesAt w (g0 + 1) w.heap.size (some ⟨g, 0, none⟩) m m (fs.getD j (ByteArray.empty, 0, [])).2.2
def wFile (f : PF) : Int := f.1.size + f.2.length
def wPend (p : PP) : Int := p.1.size + p.2.2.length
def wFiles : List PF → Int
 | [] => 0
 | f :: r => wFile f + wFiles r
def wPends : List PP → Int
 | [] => 0
 | f :: r => wPend f + wPends r
theorem take_snocD {α : Type} (l : List α) (k : Nat) (d : α) (h : k < l.length) : l.take (k + 1) = l.take k ++ [l.getD k d] := by
 rw [List.take_succ_eq_append_getElem h]; simp [List.getD, List.getElem?_eq_getElem h]
theorem ret_int {k : IntKind} {a b : Int} (h : a = b) : Ending.returned (.int k a) = .returned (.int k b) := by rw [h]
/-- The operation at a place of a list. -/
def At (l : List Oper) (i : Nat) (o : Oper) : Prop := l[i]? = some o
theorem At.z {o : Oper} {r : List Oper} : At (o :: r) 0 o := rfl
theorem At.s {a o : Oper} {r : List Oper} {i : Nat} (h : At r i o) : At (a :: r) (i + 1) o := h
theorem At.f {a b c d e o : Oper} {r : List Oper} {i : Nat} (h : At r i o) : At (a :: b :: c :: d :: e :: r) (i + 5) o := .s (.s (.s (.s (.s h))))
theorem At.t {a b c d e a' b' c' d' e' o : Oper} {r : List Oper} {i : Nat} (h : At r i o) : At (a :: b :: c :: d :: e :: a' :: b' :: c' :: d' :: e' :: r) (i + 10) o := .f (.f h)
theorem At.get {l : List Oper} {i : Nat} {o : Oper} (h : At l i o) : l.toArray[i]? = some o := by
  unfold At at h
  simpa using h
theorem tkA {P : Program} {md : Region.Mode} {l : List Oper} {Q : Exit → Act → World → Prop} {S : World → Prop} {i : Nat} {oi : Oper} {v : Value} {fuel : Nat} {listed : Array Bool} {a : Act} {w : World} (hi : At l i oi)
    (hs : Region.noSelect l.toArray = true) (hf : Region.free md l.toArray listed i = true) (hr : (Region.ready md l.toArray listed).contains i = true)
    (hQ : ∀ c a w, Q (.panic c) (a.put oi.dst v) w → Q (.panic c) a w) (hy : YieldsIf P l.toArray S oi v a) (hS : S w)
    (h : wpAnyH P md l.toArray Q S fuel (listed.setIfInBounds i true) (a.put oi.dst v) w) : wpAnyH P md l.toArray Q S (fuel + 1) listed a w :=
  wpAnyH_take hi.get hs hf hr hQ hy hS h
theorem tkB {P : Program} {md : Region.Mode} {l : List Oper} {Q : Exit → Act → World → Prop} {S : World → Prop} {i : Nat} {oi : Oper} {v : Value} {fuel : Nat} {listed : Array Bool} {a : Act} {w : World} (hi : At l i oi)
    (hs : (Region.noSelect l.toArray && Region.free md l.toArray listed i && (Region.ready md l.toArray listed).contains i) = true)
    (hQ : ∀ c a w, Q (.panic c) (a.put oi.dst v) w → Q (.panic c) a w) (hy : YieldsIf P l.toArray S oi v a) (hS : S w)
    (h : wpAnyH P md l.toArray Q S fuel (listed.setIfInBounds i true) (a.put oi.dst v) w) : wpAnyH P md l.toArray Q S (fuel + 1) listed a w := by
  simp only [Bool.and_eq_true] at hs
  exact wpAnyH_take hi.get hs.1.1 hs.1.2 hs.2 hQ hy hS h
theorem q1 {α : Type} (l : List α) (i : Nat) (a : α) : l.toArray.setIfInBounds i a = (l.set i a).toArray := List.setIfInBounds_toArray ..
theorem q2 {α : Type} (l : List α) (a b : α) : (a :: l).set 0 b = b :: l := rfl
theorem q3 {α : Type} (l : List α) (i : Nat) (a b : α) : (a :: l).set (i + 1) b = a :: l.set i b := rfl
theorem rdA {P : Program} {md : Region.Mode} {l : List Oper} {Q : Exit → Act → World → Prop} {S : World → Prop} {fuel : Nat} {listed : Array Bool} {a : Act} {w : World} {i : Nat} {o : Oper} {rs : List Nat} (ho : At l i o)
    (h : ∀ K' : Act → World → Prop, Shut (∀ a w, S w → (S w → wpAnyH P md l.toArray Q S fuel (listed.setIfInBounds i true) a w) → K' a w) → if Region.wanted o (yielded l.toArray a.tmps) = true then Oper.wp P o a w K' Q else K' (a.put o.dst undef) w)
    (hs : AllReadyH P md l.toArray Q S fuel listed a w rs) : AllReadyH P md l.toArray Q S fuel listed a w (i :: rs) := AllReadyH.cons ho.get h hs
theorem info_u8 : (Try.prog.info? 5).map (fun i => (i.zero, i.size, i.bytes)) = some (some (.int .u8 0), 1, 1) := by kernel_rfl
theorem bytes_of_owns {w : World} {base e g n c : Nat} {xs : List Value} {bs : List Int} (h : w.ownsRow base e 1 (.slice (some ⟨g, 0, none⟩) n c) n xs) (hl : bs.length = n) (hx : ∀ j, j < n → xs[j]? = some (.int .u8 (bs.getD j 0))) (hw : ∀ x ∈ bs, 0 ≤ x ∧ x ≤ 255) : BytesAt w base w.heap.size (some ⟨g, 0, none⟩) n c bs := by
 have hb := h.lt g rfl
 have hc : n ≤ c ∧ c ≤ maxLen := by
  rcases h.2 with ⟨h', _⟩ | ⟨g', cap', cur, h', _, hg, h1, h2, _⟩
  ·simp at h'
  ·simp only [Value.slice.injEq, Option.some.injEq, Addr.mk.injEq, and_true, true_and] at h'
   obtain ⟨_, rfl⟩ := h'
   exact ⟨h1, h2⟩
 refine ⟨hl, hc.1, hc.2, hw, fun hn => ⟨g, 0, rfl, hb, fun i hi => ?_⟩, fun h => by cases h⟩
 rw [Nat.zero_add, h.cellAt i (by omega), hx i hi]
def u8s (bs : List Int) : List Value := bs.map (Value.int .u8)
theorem own_shape {w : World} {base e size : Nat} {v : Value} {n : Nat} {xs : List Value} (h : w.ownsRow base e size v n xs) : ∃ a c, v = .slice a n c := by
 rcases h.2 with ⟨rfl, rfl⟩ | ⟨g, cap, cur, rfl, _⟩
 ·exact ⟨none, 0, rfl⟩
 ·exact ⟨_, _, rfl⟩
theorem bytesAt_of_own {w : World} {base : Nat} {v : Value} {bs : List Int} (h : w.ownsRow base 5 1 v bs.length (u8s bs)) (hw : ∀ x ∈ bs, 0 ≤ x ∧ x ≤ 255) : ∃ a n c, v = .slice a n c ∧ BytesAt w base w.heap.size a n c bs := by
 rcases h.2 with ⟨rfl, hn⟩ | ⟨g, cap, cur, rfl, hb, hg, h1, h2, _⟩
 ·exact ⟨none, 0, 0, rfl, hn, Nat.le_refl _, Nat.zero_le _, hw, fun h => absurd h (Nat.lt_irrefl _), fun _ => rfl⟩
 ·refine ⟨some ⟨g, 0, none⟩, bs.length, cap, rfl, bytes_of_owns h rfl (fun j hj => ?_) hw⟩
  simp [u8s, List.getElem?_eq_getElem hj]
theorem step_append_own {P : Program} {ops : Array Oper} {o : Oper} {a : Act} {w : World} {K : Act → World → Prop} {Q : Exit → Act → World → Prop} {E : Prop}
  (hgd : o.guard = none) (s x : Operand) (t : TypeId) (ho : o.op = .call { callee := .builtin .append, args := #[s, x], argTypes := #[t, t] })
  (base : Nat) (e : TypeId) (i : TypeInfo) (z : Value) (size bytes : Nat) (ht : P.underlying t = some (.slice e)) (hi : P.info? e = some i) (hz : i.zero = some z)
  (hsize : i.size = size) (hby : i.bytes = bytes) (hzs : z.cells.size = size) (hsz : 0 < size)
  (v : Value) (n : Nat) (xs : List Value) (hs : a.eval s = v) (hown : w.ownsRow base e size v n xs)
  (ad : Addr) (m c : Nat) (news : List Value) (hx : a.eval x = .slice (some ad) m c) (hl : news.length = m * size) (hnews : ∀ j u, news[j]? = some u → w.cell? (ad.add j) = some u) (h1 : ∀ u ∈ news, u.oneCell' = true)
  (h63 : n + m ≤ maxLen) (hbytes : (n + m) * bytes ≤ 140737488355328) (hbase : base ≤ w.heap.size)
  (h : ∀ v' w', w'.ownsRow base e size v' (n + m) (xs ++ news) → w.grownBy w' v.ownBlock → K (a.put o.dst v') w') :
  if Region.wanted o (yielded ops a.tmps) = true then Oper.wp P o a w K Q else E := by
 rw [if_pos (by simp [Region.wanted, hgd])]
 exact wp_append_own w s x t ho base e i z size bytes ht hi hz hsize hby hzs hsz v n xs hs hown ad m c news hx hl hnews h1 h63 hbytes hbase fun v' w' h2 h3 _ => h v' w' h2 h3
structure Fr (S : Nat → Prop) (w w' : World) : Prop where
 os : w'.os = w.os
 tape : w'.tape = w.tape
 output : w'.output = w.output
 size : w.heap.size ≤ w'.heap.size
 block : ∀ k, k < w.heap.size → ¬ S k → w'.heap[k]? = w.heap[k]?
theorem Fr.refl (S : Nat → Prop) (w : World) : Fr S w w := ⟨rfl, rfl, rfl, Nat.le_refl _, fun _ _ _ => rfl⟩
theorem Fr.trans {S : Nat → Prop} {a b c : World} (h : Fr S a b) (k : Fr S b c) : Fr S a c :=
 ⟨k.os.trans h.os, k.tape.trans h.tape, k.output.trans h.output, Nat.le_trans h.size k.size, fun i hi hn => (k.block i (Nat.lt_of_lt_of_le hi h.size) hn).trans (h.block i hi hn)⟩
theorem Fr.of_grown {S : Nat → Prop} {w w' : World} {row : Option Nat} (h : w.grownBy w' row) (hS : ∀ g, row = some g → S g) : Fr S w w' :=
 ⟨h.os, h.tape, h.output, h.size, fun k hk hn => h.block k hk (fun e => hn (hS k e.symm))⟩
theorem Fr.of_below {S : Nat → Prop} {w w' : World} (h : Below w.heap.size w w') : Fr S w w' :=
 ⟨h.os, h.tape, h.output, h.size, fun k hk _ => h.block k hk⟩
theorem Fr.weak {S T : Nat → Prop} {w w' : World} (h : Fr S w w') (hS : ∀ g, S g → T g) : Fr T w w' :=
 ⟨h.os, h.tape, h.output, h.size, fun k hk hn => h.block k hk (fun e => hn (hS k e))⟩
theorem Fr.below {S : Nat → Prop} {w w' : World} {B : Nat} (h : Fr S w w') (hB : B ≤ w.heap.size) (hS : ∀ g, S g → B ≤ g) : Below B w w' :=
 ⟨h.os, h.tape, h.output, h.size, fun k hk => h.block k (by omega) (fun e => by have := hS k e; omega)⟩
theorem owns_fr {S : Nat → Prop} {w w' : World} {base e size : Nat} {v : Value} {n : Nat} {xs : List Value} (h : w.ownsRow base e size v n xs) (hf : Fr S w w') (hS : ∀ g, v.ownBlock = some g → ¬ S g) : w'.ownsRow base e size v n xs := by
 refine ⟨h.1, ?_⟩
 rcases h.2 with hn | ⟨g, cap, cur, rfl, hb, hgg, rest⟩
 ·exact .inl hn
 ·refine .inr ⟨g, cap, cur, rfl, hb, ?_, rest⟩
  rw [hf.block g (Array.getElem?_eq_some_iff.1 hgg).1 (hS g rfl)]
  exact hgg
def digF : Nat → Nat → List UInt8 → List UInt8
 | 0, _, out => out
 | f + 1, k, out => if k = 0 then out else digF f (k / 10) (UInt8.ofNat (48 + k % 10) :: out)
def mkS (k : Nat) : ByteArray := if k = 0 then ⟨#[109, 48]⟩ else ⟨(109 :: digF 40 k []).toArray⟩
def marks (k : Nat) (n : Nat) : List Int := (List.range n).map fun j => ((k + j : Nat) : Int) % 256
def MarkRes (w w' : World) (base : Nat) (v : Value) (n k : Nat) : Prop := w'.ownsRow base 5 1 v n (u8s (marks k n)) ∧ w.grownBy w' v.ownBlock
def okBytes (l : List UInt8) : Bool := l.all fun c => decide (97 ≤ c.toNat ∧ c.toNat ≤ 122)
def nameB (s : ByteArray) : Bool := decide (1 ≤ s.size) && decide (s.size ≤ 8) && okBytes s.data.toList
theorem okBytes_snoc (l : List UInt8) (c : UInt8) : okBytes (l ++ [c]) = (okBytes l && decide (97 ≤ c.toNat ∧ c.toNat ≤ 122)) := by simp [okBytes]
theorem okBytes_take_false (l : List UInt8) (k : Nat) (h : okBytes (l.take k) = false) : okBytes l = false := by
 cases hl : okBytes l
 ·rfl
 ·exfalso
  have : okBytes (l.take k) = true := by
   simp only [okBytes, List.all_eq_true] at hl ⊢
   exact fun x hx => hl x (List.mem_of_mem_take hx)
  rw [this] at h; cases h
theorem take_snocB (s : ByteArray) (k : Nat) (h : k < s.size) : s.data.toList.take (k + 1) = s.data.toList.take k ++ [s[k]] := by
 rw [List.take_succ_eq_append_getElem (by simpa using h)]; rfl
theorem name_long {s : ByteArray} (h : s.size < 1 ∨ 8 < s.size) : nameB s = false := by
 unfold nameB
 rcases h with h | h
 ·simp [show ¬ 1 ≤ s.size by omega]
 ·simp [show ¬ s.size ≤ 8 by omega]
theorem name_bad {s : ByteArray} {k : Nat} (hk : k < s.size) (h : ((s[k].toNat : Int) < 97) ∨ (122 : Int) < (s[k].toNat : Int)) : nameB s = false := by
 have h2 : okBytes (s.data.toList.take (k + 1)) = false := by
  rw [take_snocB s k hk, okBytes_snoc]
  rw [show decide (97 ≤ s[k].toNat ∧ s[k].toNat ≤ 122) = false by simp; omega]; simp
 unfold nameB
 rw [okBytes_take_false _ _ h2]; simp
theorem name_good {s : ByteArray} (h1 : 1 ≤ s.size) (h2 : s.size ≤ 8) (h : okBytes (s.data.toList.take s.size) = true) : nameB s = true := by
 unfold nameB
 rw [List.take_of_length_le (by simp)] at h
 simp [h1, h2, h]
theorem name_step {s : ByteArray} {k : Nat} (hk : k < s.size) (h : okBytes (s.data.toList.take k) = true) (h1 : (97 : Int) ≤ (s[k].toNat : Int)) (h2 : (s[k].toNat : Int) ≤ 122) : okBytes (s.data.toList.take (k + 1)) = true := by
 rw [take_snocB s k hk, okBytes_snoc, h]
 simp; omega
theorem bytes_ext {a b : ByteArray} (h : a.toList = b.toList) : a = b := by
 rw [ByteArray.toList_eq, ByteArray.toList_eq] at h
 cases a; cases b; simp at h; subst h; rfl
theorem same_no {a b : ByteArray} (h : a ≠ b) : (a.toList == b.toList) = false := by
 cases hb : (a.toList == b.toList)
 ·rfl
 ·exact absurd (bytes_ext (eq_of_beq hb)) h
theorem same_yes {a b : ByteArray} (h : a = b) : (a.toList == b.toList) = true := by subst h; simp
def findN (fs : List PF) (nm : ByteArray) : Nat := fs.findIdx (fun f => decide (f.1 = nm))
def findI (fs : List PF) (nm : ByteArray) : Int := if findN fs nm < fs.length then (findN fs nm : Int) else -1
theorem findI_none {fs : List PF} {nm : ByteArray} (h : ∀ j, j < fs.length → (fs.getD j (ByteArray.empty, [])).1 ≠ nm) : findI fs nm = -1 := by
 unfold findI
 rw [if_neg]
 intro hlt
 have h1 := h _ hlt
 unfold findN at h1 hlt
 have h2 := List.findIdx_getElem (w := hlt)
 simp only [List.getD, List.getElem?_eq_getElem hlt, Option.getD_some] at h1
 exact h1 (of_decide_eq_true h2)
theorem findN_at {fs : List PF} {nm : ByteArray} {k : Nat} (hk : k < fs.length) (h : ∀ j, j < k → (fs.getD j (ByteArray.empty, [])).1 ≠ nm) (h2 : (fs.getD k (ByteArray.empty, [])).1 = nm) : findN fs nm = k := by
 unfold findN
 rw [List.findIdx_eq hk]
 refine ⟨by simpa [List.getD, List.getElem?_eq_getElem hk] using h2, fun j hj => ?_⟩
 simpa [List.getD, List.getElem?_eq_getElem (show j < fs.length by omega)] using h j hj
theorem findI_at {fs : List PF} {nm : ByteArray} {k : Nat} (hk : k < fs.length) (h : ∀ j, j < k → (fs.getD j (ByteArray.empty, [])).1 ≠ nm) (h2 : (fs.getD k (ByteArray.empty, [])).1 = nm) : findI fs nm = k := by
 unfold findI
 rw [findN_at hk h h2, if_pos hk]
theorem findI_cases (fs : List PF) (nm : ByteArray) : (findI fs nm = -1 ∧ findN fs nm = fs.length) ∨ (findI fs nm = findN fs nm ∧ findN fs nm < fs.length) := by
 unfold findI
 have : findN fs nm ≤ fs.length := List.findIdx_le_length
 split
 ·exact .inr ⟨rfl, by assumption⟩
 ·exact .inl ⟨rfl, by omega⟩
def lenI (fs : List PF) (nm : ByteArray) : Int := if findN fs nm < fs.length then ((fs.getD (findN fs nm) (ByteArray.empty, [])).2.length : Int) / 128 else 0
def totalI : List PF → Int
 | [] => 0
 | f :: r => (f.2.length : Int) / 128 + totalI r
theorem totalI_append (xs ys : List PF) : totalI (xs ++ ys) = totalI xs + totalI ys := by
 induction xs with
 | nil => simp [totalI]
 | cons x r ih => simp [totalI, ih]; omega
theorem totalI_bd (xs : List PF) : 0 ≤ totalI xs ∧ totalI xs ≤ wFiles xs := by
 induction xs with
 | nil => simp [totalI, wFiles]
 | cons x r ih => simp [totalI, wFiles, wFile]; omega
theorem totalI_take_le (xs : List PF) (k : Nat) : totalI (xs.take k) ≤ totalI xs := by
 have h := totalI_append (xs.take k) (xs.drop k)
 rw [List.take_append_drop] at h
 have := (totalI_bd (xs.drop k)).1
 omega
def geB (a b : ByteArray) : Bool := !Op.bytesLess a.toList b.toList
def fileOk (fs : List PF) (i : Nat) : Bool :=
 nameB (fs.getD i (ByteArray.empty, [])).1 && !((fs.getD i (ByteArray.empty, [])).2.length == 0) && ((fs.getD i (ByteArray.empty, [])).2.length % 128 == 0) && !(decide (0 < i) && geB (fs.getD (i - 1) (ByteArray.empty, [])).1 (fs.getD i (ByteArray.empty, [])).1)
def filesOk (fs : List PF) : Bool := decide (∀ i, i < fs.length → fileOk fs i = true)
theorem filesOk_no {fs : List PF} {i : Nat} (hi : i < fs.length) (h : fileOk fs i = false) : filesOk fs = false := by
 unfold filesOk
 rw [decide_eq_false_iff_not]
 intro h2
 rw [h2 i hi] at h
 cases h
theorem filesOk_yes {fs : List PF} (h : ∀ i, i < fs.length → fileOk fs i = true) : filesOk fs = true := by
 unfold filesOk
 exact decide_eq_true h
end Go.Proofs.Ytakdaandbdbdnaa
