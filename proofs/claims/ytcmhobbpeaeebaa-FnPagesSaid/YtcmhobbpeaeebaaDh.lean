import Derived.Test.YtcmhobbpeaeebaaGAC
import Derived.Test.YtcmhobbpeaeebaaDg
import Derived.Laws.AppendOwnNone
namespace Go.Proofs.Ytcmhobbpeaeebaa
open Go.RowKit
set_option linter.unusedVariables false
set_option maxRecDepth 100000

/-- The state inside l2SpoilPage: the result's block R, p's block P, the cursor, p's rows. -/
structure QSt (S T : Nat) (w X : World) (C A B R P : Nat) (cs : Array Value) (vk ve : Value) (ks : List PK) (es : List PE) : Prop where
  res : X.heap[R]? = some (.cells #[.int .i64 0, .int .i64 0, .int .i64 0, .int .i64 0, .int .i64 0, .slice none 0 0, .slice none 0 0, .int .i64 0, .string ⟨#[]⟩] 28)
  page : X.heap[P]? = some (.cells cs 28)
  cur : DCur X C A B
  bel : Below S w X
  krow : X.ownsRow T 100 2 vk ks.length (rowsOf kidCells ks)
  erow : X.ownsRow T 102 4 ve es.length (rowsOf entCells es)
  apart : ∀ g, vk.ownBlock = some g → ve.ownBlock = some g → False
  away : ∀ g, (vk.ownBlock = some g ∨ ve.ownBlock = some g) → g ≠ R ∧ g ≠ P
  sC : S ≤ C
  cT : C < T
  tR : T ≤ R
  tP : T ≤ P
  ne : R ≠ P
theorem QSt.ltR {S T : Nat} {w X : World} {C A B R P : Nat} {cs : Array Value} {vk ve : Value} {ks : List PK} {es : List PE} (h : QSt S T w X C A B R P cs vk ve ks es) : R < X.heap.size := (Array.getElem?_eq_some_iff.1 h.res).1
theorem QSt.ltP {S T : Nat} {w X : World} {C A B R P : Nat} {cs : Array Value} {vk ve : Value} {ks : List PK} {es : List PE} (h : QSt S T w X C A B R P cs vk ve ks es) : P < X.heap.size := (Array.getElem?_eq_some_iff.1 h.page).1
theorem QSt.fr {S T : Nat} {w X X' : World} {C A B R P : Nat} {cs : Array Value} {vk ve : Value} {ks : List PK} {es : List PE} {F : Nat → Prop} (h : QSt S T w X C A B R P cs vk ve ks es) (hD : DCur X' C A B) (hF : Fr F X X') (hS : ∀ g, F g → S ≤ g ∧ g ≠ R ∧ g ≠ P ∧ vk.ownBlock ≠ some g ∧ ve.ownBlock ≠ some g) : QSt S T w X' C A B R P cs vk ve ks es :=
  ⟨(hF.block _ h.ltR (fun e => (hS _ e).2.1 rfl)).trans h.res, (hF.block _ h.ltP (fun e => (hS _ e).2.2.1 rfl)).trans h.page, hD, h.bel.trans (hF.below (by have := h.sC; have := h.cT; have := h.tR; have := h.ltR; omega) (fun g e => (hS g e).1)),
    owns_fr h.krow hF (fun g e e' => (hS g e').2.2.2.1 e), owns_fr h.erow hF (fun g e e' => (hS g e').2.2.2.2 e), h.apart, h.away, h.sC, h.cT, h.tR, h.tP, h.ne⟩
theorem QSt.call {S T : Nat} {w X X' : World} {C A B R P : Nat} {cs : Array Value} {vk ve : Value} {ks : List PK} {es : List PE} (h : QSt S T w X C A B R P cs vk ve ks es) (hD : DCur X' C A B) (hF : Fr (fun g => g = C) X X') : QSt S T w X' C A B R P cs vk ve ks es :=
  h.fr hD hF (fun g e => by
    subst e
    have := h.sC; have := h.cT; have := h.tR; have := h.tP
    refine ⟨by omega, by omega, by omega, fun e => ?_, fun e => ?_⟩
    · have := (h.krow.lt _ e).1; omega
    · have := (h.erow.lt _ e).1; omega)
theorem QSt.under {S T : Nat} {w X X' : World} {C A B R P : Nat} {cs : Array Value} {vk ve : Value} {ks : List PK} {es : List PE} (h : QSt S T w X C A B R P cs vk ve ks es) (hb : Below X.heap.size X X') : QSt S T w X' C A B R P cs vk ve ks es :=
  h.fr (h.cur.below hb) (Fr.of_below (S := fun _ => False) hb) (fun g e => e.elim)
theorem QSt.set {S T : Nat} {w X : World} {C A B R P : Nat} {cs cs' : Array Value} {vk ve : Value} {ks : List PK} {es : List PE} (h : QSt S T w X C A B R P cs vk ve ks es) (i : Nat) (u : Value) (hp : (X.setCell ⟨P, i, none⟩ u).heap[P]? = some (.cells cs' 28)) : QSt S T w (X.setCell ⟨P, i, none⟩ u) C A B R P cs' vk ve ks es := by
  have hf := setD_fr X P i u
  have := h.sC; have := h.cT; have := h.tR; have := h.tP; have hR := h.ltR; have hne := h.ne
  exact ⟨(hf.block _ hR (fun e => hne e)).trans h.res, hp, h.cur.frg hf (fun g e => by omega), h.bel.trans (hf.below (by omega) (fun g e => by omega)),
    owns_fr h.krow hf (fun g e e' => (h.away g (.inl e)).2 e'), owns_fr h.erow hf (fun g e e' => (h.away g (.inr e)).2 e'), h.apart, h.away, h.sC, h.cT, h.tR, h.tP, h.ne⟩
/-- A row of p's kids that has grown. -/
theorem QSt.kapp {S T : Nat} {w X X' : World} {C A B R P : Nat} {cs : Array Value} {vk ve vk' : Value} {ks ks' : List PK} {es : List PE} (h : QSt S T w X C A B R P cs vk ve ks es) (hg : X.grownBy X' vk.ownBlock) (ho : X'.ownsRow T 100 2 vk' ks'.length (rowsOf kidCells ks')) (hl : vk'.ownBlock = vk.ownBlock ∨ ∀ g, vk'.ownBlock = some g → X.heap.size ≤ g) : QSt S T w X' C A B R P cs vk' ve ks' es := by
  have hF : Fr (fun g => vk.ownBlock = some g) X X' := Fr.of_grown hg (fun g e => e)
  have := h.sC; have := h.cT; have := h.tR; have := h.tP; have hR := h.ltR; have hP := h.ltP
  refine ⟨(hF.block _ hR (fun e => (h.away _ (.inl e)).1 rfl)).trans h.res, (hF.block _ hP (fun e => (h.away _ (.inl e)).2 rfl)).trans h.page, h.cur.frg hF (fun g e => by have := (h.krow.lt g e).1; omega), h.bel.trans (hF.below (by omega) (fun g e => by have := (h.krow.lt g e).1; omega)), ho, owns_fr h.erow hF (fun g e e' => h.apart g e' e), ?_, ?_, h.sC, h.cT, h.tR, h.tP, h.ne⟩
  · intro g e1 e2
    rcases hl with hl | hl
    · rw [hl] at e1; exact h.apart g e1 e2
    · have := hl g e1; have := (h.erow.lt g e2).2; omega
  · rintro g (e | e)
    · rcases hl with hl | hl
      · rw [hl] at e; exact h.away g (.inl e)
      · have := hl g e; omega
    · exact h.away g (.inr e)
theorem QSt.eapp {S T : Nat} {w X X' : World} {C A B R P : Nat} {cs : Array Value} {vk ve ve' : Value} {ks : List PK} {es es' : List PE} (h : QSt S T w X C A B R P cs vk ve ks es) (hg : X.grownBy X' ve.ownBlock) (ho : X'.ownsRow T 102 4 ve' es'.length (rowsOf entCells es')) (hl : ve'.ownBlock = ve.ownBlock ∨ ∀ g, ve'.ownBlock = some g → X.heap.size ≤ g) : QSt S T w X' C A B R P cs vk ve' ks es' := by
  have hF : Fr (fun g => ve.ownBlock = some g) X X' := Fr.of_grown hg (fun g e => e)
  have := h.sC; have := h.cT; have := h.tR; have := h.tP; have hR := h.ltR; have hP := h.ltP
  refine ⟨(hF.block _ hR (fun e => (h.away _ (.inr e)).1 rfl)).trans h.res, (hF.block _ hP (fun e => (h.away _ (.inr e)).2 rfl)).trans h.page, h.cur.frg hF (fun g e => by have := (h.erow.lt g e).1; omega), h.bel.trans (hF.below (by omega) (fun g e => by have := (h.erow.lt g e).1; omega)), owns_fr h.krow hF (fun g e e' => h.apart g e e'), ho, ?_, ?_, h.sC, h.cT, h.tR, h.tP, h.ne⟩
  · intro g e1 e2
    rcases hl with hl | hl
    · rw [hl] at e2; exact h.apart g e1 e2
    · have := hl g e2; have := (h.krow.lt g e1).2; omega
  · rintro g (e | e)
    · exact h.away g (.inl e)
    · rcases hl with hl | hl
      · rw [hl] at e; exact h.away g (.inr e)
      · have := hl g e; omega
/-- A page in p's block, told as the answer. -/
theorem QSt.done {S T : Nat} {w X : World} {C A B R P : Nat} {cs : Array Value} {p : Pg} {ka : Option Addr} {kc : Nat} {ea : Option Addr} {ec : Nat} (h : QSt S T w X C A B R P cs (.slice ka p.ks.length kc) (.slice ea p.es.length ec) p.ks p.es) (hf : PgFit p) (hk : p.ks.length ≤ 21) (he : p.es.length ≤ 21) (hkf : ∀ x ∈ p.ks, kidFit x) (hef : ∀ x ∈ p.es, entFit x) (hlo : -1 ≤ p.tx) (u0 u1 u2 u3 u4 u5 u6 u7 u8 : Value) :
    DPg (put9D X R u0 u1 u2 u3 u4 u5 u6 u7 u8) T 21 (fun p => -1 ≤ p.tx) (.agg #[.int .i64 p.kind, .int .i64 p.tx, .int .i64 p.id, .int .i64 p.root, .int .i64 p.count, .slice ka p.ks.length kc, .slice ea p.es.length ec, .int .i64 p.next, .string p.data]) ∧ Below S w (put9D X R u0 u1 u2 u3 u4 u5 u6 u7 u8) := by
  have hz := put9D_fr X R u0 u1 u2 u3 u4 u5 u6 u7 u8
  have := h.sC; have := h.cT; have := h.tR; have hR := h.ltR
  exact ⟨⟨p, ka, kc, ea, ec, rfl, hf, hk, he, hkf, hef, owns_fr h.krow hz (fun g e e' => (h.away g (.inl e)).1 e'), owns_fr h.erow hz (fun g e e' => (h.away g (.inr e)).1 e'), h.apart, hlo⟩, h.bel.trans (hz.below (by omega) (fun g e => by omega))⟩
theorem lit_ent (w : World) (pe : PE) : (w.alloc (.cells #[.string pe.1, .string pe.2.1, .int .i64 pe.2.2.1, .int .i64 pe.2.2.2] 102)).ownsRow w.heap.size 102 4 (.slice (some ⟨w.heap.size, 0, none⟩) 1 1) 1 (entCells pe) :=
  ⟨by simp [entCells], .inr ⟨w.heap.size, 1, _, rfl, Nat.le_refl _, heap_alloc_new _ _, Nat.le_refl _, by unfold maxLen; omega, by simp, by simp [entCells]⟩⟩
theorem ents_none {w : World} {T : Nat} {ea : Option Addr} {m ec : Nat} {xs : List Value} (h : w.ownsRow T 102 4 (.slice ea m ec) m xs) : (ea = none ∧ m = 0 ∧ ec = 0) ∨ ∃ g, ea = some ⟨g, 0, none⟩ := by
  rcases h.2 with ⟨e, rfl⟩ | ⟨g, cap, cur, e, _⟩
  · simp only [Value.slice.injEq] at e; exact .inl ⟨e.1, rfl, e.2.2⟩
  · simp only [Value.slice.injEq] at e; exact .inr ⟨g, e.1⟩
/-- append([]Ent{pe}, es...), the list just laid, as one step of a region that draws. -/
theorem step_entsA {w2 : World} {ops : Array Oper} {o : Oper} {a : Act} {K : Act → World → Prop} {Q : Exit → Act → World → Prop} {E : Prop} (hgd : o.guard = none) (s x : Operand)
    (ho : o.op = .call { callee := .builtin .append, args := #[s, x], argTypes := #[26, 26] })
    (pe : PE) (hs : a.eval s = .slice (some ⟨w2.heap.size, 0, none⟩) 1 1)
    (T : Nat) (ea : Option Addr) (ec : Nat) (es : List PE) (hx : a.eval x = .slice ea es.length ec) (hE : w2.ownsRow T 102 4 (.slice ea es.length ec) es.length (rowsOf entCells es)) (hn : es.length ≤ 1000000)
    (h : ∀ v' w', w'.ownsRow w2.heap.size 102 4 v' (pe :: es).length (rowsOf entCells (pe :: es)) → Below w2.heap.size w2 w' → K (a.put o.dst v') w') :
    if Region.wanted o (yielded ops a.tmps) = true then Oper.wp Try.prog o a (w2.alloc (.cells #[.string pe.1, .string pe.2.1, .int .i64 pe.2.2.1, .int .i64 pe.2.2.2] 102)) K Q else E := by
  obtain ⟨i0, hi, hz0, hz1, hz2⟩ := info_parts info_EntD
  have hR := lit_ent w2 pe
  have hb : Below w2.heap.size w2 (w2.alloc (.cells #[.string pe.1, .string pe.2.1, .int .i64 pe.2.2.1, .int .i64 pe.2.2.2] 102)) := (Below.refl _ _).alloc (Nat.le_refl _) _
  have hE2 := owns_below hE hb
  have hrow : rowsOf entCells (pe :: es) = entCells pe ++ rowsOf entCells es := by simp [rowsOf]
  have hsz := hb.size
  generalize w2.alloc (.cells #[.string pe.1, .string pe.2.1, .int .i64 pe.2.2.1, .int .i64 pe.2.2.2] 102) = w at hR hb hE2 hsz ⊢
  rcases ents_none hE with ⟨rfl, h0, rfl⟩ | ⟨g, rfl⟩
  · have hes : es = [] := List.eq_nil_of_length_eq_zero h0
    subst hes
    rw [if_pos (by simp [Region.wanted, hgd])]
    have hrun := run_append_owned_none (P := Try.prog) (w := w) w2.heap.size 26 o.type 102 i0 4 Try.underlying26 hi _ 1 _ hR
    unfold Oper.wp
    simp [execOp, ho, resolve, invoke, builtin, hs, hx, hrun, Result.andThen]
    refine h _ w ?_ hb
    rw [hrow]
    simpa [rowsOf] using hR
  · refine step_append_own hgd s x 26 ho w2.heap.size 102 i0 _ 4 48 Try.underlying26 hi hz0 hz1 hz2 rfl (by decide) _ 1 (entCells pe) hs hR ⟨g, 0, none⟩ es.length ec (rowsOf entCells es) hx hE2.1 (hE2.cells (g := g) rfl) ?_ (by unfold maxLen; omega) (by omega) hsz ?_
    · intro u hu
      simp only [rowsOf, List.mem_flatMap] at hu
      obtain ⟨y, _, hu⟩ := hu
      simp [entCells] at hu
      rcases hu with rfl | rfl | rfl | rfl <;> rfl
    · intro v' w' h1 h2
      refine h v' w' ?_ (hb.trans ((Fr.of_grown (S := fun k => w2.heap.size ≤ k) h2 (fun k e => (hR.lt k e).1)).below hsz (fun k e => e)))
      rw [hrow, List.length_cons, Nat.add_comm]
      exact h1
/-- p's entries laid anew. -/
theorem QSt.enew {S T : Nat} {w X X' : World} {C A B R P : Nat} {cs : Array Value} {vk ve ve2 : Value} {ks : List PK} {es es2 : List PE} (h : QSt S T w X C A B R P cs vk ve ks es) (hb : Below X.heap.size X X') (ho : X'.ownsRow X.heap.size 102 4 ve2 es2.length (rowsOf entCells es2)) : QSt S T w X' C A B R P cs vk ve2 ks es2 := by
  have h1 := h.under hb
  have hR := h.ltR; have hP := h.ltP; have hT := h.tR
  refine ⟨h1.res, h1.page, h1.cur, h1.bel, h1.krow, own_lowerD ho (by omega), ?_, ?_, h1.sC, h1.cT, h1.tR, h1.tP, h1.ne⟩
  · intro g e1 e2
    have := (ho.lt g e2).1; have := (h.krow.lt g e1).2; omega
  · rintro g (e | e)
    · exact h1.away g (.inl e)
    · have := (ho.lt g e).1; omega
set_option maxHeartbeats 6400000 in
theorem l2SpoilPage_any (C A B : Nat) (w : World) (h : DCur w C A B) (S T : Nat) (hS : S ≤ C) (hT : C < T) (hTw : T ≤ w.heap.size) (v : Value) (hv : DPg w T 20 (fun p => 0 ≤ p.tx) v) :
    Calls Try.prog 37 #[.pointer (some ⟨C, 0, none⟩), v] w fun e w' => ∃ v', e = .returned v' ∧ DPg w' T 21 (fun p => -1 ≤ p.tx) v' ∧ Below S w w' := by
  obtain ⟨p, ka, kc, ea, ec, rfl, hf, hk, he, hkf, hef, hO, hP, hap, hlo⟩ := hv
  have hCw := h.lt
  go_enter Try.func37, Try.ntmps37
  go_wp2_with fail
  have HP1 := heap_alloc_new w (.cells #[.int .i64 p.kind, .int .i64 p.tx, .int .i64 p.id, .int .i64 p.root, .int .i64 p.count, .slice ka p.ks.length kc, .slice ea p.es.length ec, .int .i64 p.next, .string p.data] 28)
  have hb1 : Below w.heap.size w (w.alloc (.cells #[.int .i64 p.kind, .int .i64 p.tx, .int .i64 p.id, .int .i64 p.root, .int .i64 p.count, .slice ka p.ks.length kc, .slice ea p.es.length ec, .int .i64 p.next, .string p.data] 28)) := (Below.refl _ _).alloc (Nat.le_refl _) _
  have HR2 := heap_alloc_new (w.alloc (.cells #[.int .i64 p.kind, .int .i64 p.tx, .int .i64 p.id, .int .i64 p.root, .int .i64 p.count, .slice ka p.ks.length kc, .slice ea p.es.length ec, .int .i64 p.next, .string p.data] 28)) (.cells #[.int .i64 0, .int .i64 0, .int .i64 0, .int .i64 0, .int .i64 0, .slice none 0 0, .slice none 0 0, .int .i64 0, .string ⟨#[]⟩] 28)
  have hb2 : Below (w.alloc (.cells #[.int .i64 p.kind, .int .i64 p.tx, .int .i64 p.id, .int .i64 p.root, .int .i64 p.count, .slice ka p.ks.length kc, .slice ea p.es.length ec, .int .i64 p.next, .string p.data] 28)).heap.size (w.alloc (.cells #[.int .i64 p.kind, .int .i64 p.tx, .int .i64 p.id, .int .i64 p.root, .int .i64 p.count, .slice ka p.ks.length kc, .slice ea p.es.length ec, .int .i64 p.next, .string p.data] 28)) ((w.alloc (.cells #[.int .i64 p.kind, .int .i64 p.tx, .int .i64 p.id, .int .i64 p.root, .int .i64 p.count, .slice ka p.ks.length kc, .slice ea p.es.length ec, .int .i64 p.next, .string p.data] 28)).alloc (.cells #[.int .i64 0, .int .i64 0, .int .i64 0, .int .i64 0, .int .i64 0, .slice none 0 0, .slice none 0 0, .int .i64 0, .string ⟨#[]⟩] 28)) := (Below.refl _ _).alloc (Nat.le_refl _) _
  have hsz : (w.alloc (.cells #[.int .i64 p.kind, .int .i64 p.tx, .int .i64 p.id, .int .i64 p.root, .int .i64 p.count, .slice ka p.ks.length kc, .slice ea p.es.length ec, .int .i64 p.next, .string p.data] 28)).heap.size = w.heap.size + 1 := by simp
  rw [hsz] at HR2
  have hP2 := (hb2.block w.heap.size (by rw [hsz]; omega)).trans HP1
  have hbb : Below w.heap.size w ((w.alloc (.cells #[.int .i64 p.kind, .int .i64 p.tx, .int .i64 p.id, .int .i64 p.root, .int .i64 p.count, .slice ka p.ks.length kc, .slice ea p.es.length ec, .int .i64 p.next, .string p.data] 28)).alloc (.cells #[.int .i64 0, .int .i64 0, .int .i64 0, .int .i64 0, .int .i64 0, .slice none 0 0, .slice none 0 0, .int .i64 0, .string ⟨#[]⟩] 28)) := hb1.trans (hb2.mono (by rw [hsz]; omega))
  have st0 : QSt S T w ((w.alloc (.cells #[.int .i64 p.kind, .int .i64 p.tx, .int .i64 p.id, .int .i64 p.root, .int .i64 p.count, .slice ka p.ks.length kc, .slice ea p.es.length ec, .int .i64 p.next, .string p.data] 28)).alloc (.cells #[.int .i64 0, .int .i64 0, .int .i64 0, .int .i64 0, .int .i64 0, .slice none 0 0, .slice none 0 0, .int .i64 0, .string ⟨#[]⟩] 28)) C A B (w.heap.size + 1) w.heap.size #[.int .i64 p.kind, .int .i64 p.tx, .int .i64 p.id, .int .i64 p.root, .int .i64 p.count, .slice ka p.ks.length kc, .slice ea p.es.length ec, .int .i64 p.next, .string p.data] (.slice ka p.ks.length kc) (.slice ea p.es.length ec) p.ks p.es := ⟨HR2, hP2, h.below hbb, hbb.mono (by omega), owns_below hO hbb, owns_below hP hbb, hap, (by rintro g (e | e); (have := (hO.lt g e).2; omega); (have := (hP.lt g e).2; omega)), hS, hT, by omega, hTw, by omega⟩
  generalize (w.alloc (.cells #[.int .i64 p.kind, .int .i64 p.tx, .int .i64 p.id, .int .i64 p.root, .int .i64 p.count, .slice ka p.ks.length kc, .slice ea p.es.length ec, .int .i64 p.next, .string p.data] 28)).alloc (.cells #[.int .i64 0, .int .i64 0, .int .i64 0, .int .i64 0, .int .i64 0, .slice none 0 0, .slice none 0 0, .int .i64 0, .string ⟨#[]⟩] 28) = w0 at st0 ⊢
  clear HP1 hb1 HR2 hb2 hP2 hbb hO hP hap h hsz
  generalize w.heap.size + 1 = R at st0 ⊢
  generalize w.heap.size = P at st0 hTw hCw ⊢
  refine (l1Below_any C A B w0 st0.cur 12 (by omega) (by omega)).mono ?_
  rintro e w1 ⟨k, rfl, hk12, hD1, hF1⟩
  have st := st0.call hD1 hF1
  clear st0 hD1 hF1
  have hk0 : k = 0 ∨ k = 1 ∨ k = 2 ∨ k = 3 ∨ k = 4 ∨ k = 5 ∨ k = 6 ∨ k = 7 ∨ k = 8 ∨ k = 9 ∨ k = 10 ∨ k = 11 := by omega
  rcases hk0 with rfl | rfl | rfl | rfl | rfl | rfl | rfl | rfl | rfl | rfl | rfl | rfl
  · have hsk := hf.kind
    go_wp2_with fail
    refine (l1Below_any C A B w1 st.cur 2 (by omega) (by omega)).mono ?_
    rintro e w2 ⟨x, rfl, hx, hD_w2, hF_w2⟩
    have stx := st.call hD_w2 hF_w2
    clear hD_w2 hF_w2
    have hq : (w2.setCell ⟨P, 0, none⟩ (.int .i64 (5 * (x : Int)))).heap[P]? = some (.cells #[.int .i64 (5 * (x : Int)), .int .i64 p.tx, .int .i64 p.id, .int .i64 p.root, .int .i64 p.count, .slice ka p.ks.length kc, .slice ea p.es.length ec, .int .i64 p.next, .string p.data] 28) := by simp [World.setCell, Array.getElem?_modify, stx.page]
    obtain ⟨q0, q1, q2, q3, q4, q5, q6, q7, q8⟩ := box_page stx.page
    have fp := box_thaw stx.page
    have st9 := stx.set 0 (.int .i64 (5 * (x : Int))) hq
    clear hq
    obtain ⟨p0, p1, p2, p3, p4, p5, p6, p7, p8⟩ := box_page st9.page
    obtain ⟨r0, r1, r2, r3, r4, r5, r6, r7, r8⟩ := box_page st9.res
    have ff := box_thaw st9.res
    have HB := put9D_box st9.res (.int .i64 (5 * (x : Int))) (.int .i64 p.tx) (.int .i64 p.id) (.int .i64 p.root) (.int .i64 p.count) (.slice ka p.ks.length kc) (.slice ea p.es.length ec) (.int .i64 p.next) (.string p.data)
    have hfin := QSt.done (p := ⟨5 * (x : Int), p.tx, p.id, p.root, p.count, p.ks, p.es, p.next, p.data⟩) st9 ⟨(by show I64 (5 * (x : Int)); unfold I64; omega), hf.tx, hf.id, hf.root, hf.count, hf.next, hf.data⟩ (show p.ks.length ≤ 21 by omega) (show p.es.length ≤ 21 by omega) hkf hef (by show -1 ≤ p.tx; omega) (.int .i64 (5 * (x : Int))) (.int .i64 p.tx) (.int .i64 p.id) (.int .i64 p.root) (.int .i64 p.count) (.slice ka p.ks.length kc) (.slice ea p.es.length ec) (.int .i64 p.next) (.string p.data)
    have HF : Hid _ := hfin
    clear hfin
    go_wp2
    show bodyPost _ _ _ _ _ (put9D (w2.setCell ⟨P, 0, none⟩ (.int .i64 (5 * (x : Int)))) R (.int .i64 (5 * (x : Int))) (.int .i64 p.tx) (.int .i64 p.id) (.int .i64 p.root) (.int .i64 p.count) (.slice ka p.ks.length kc) (.slice ea p.es.length ec) (.int .i64 p.next) (.string p.data))
    clear r0 r1 r2 r3 r4 r5 r6 r7 r8
    obtain ⟨r0, r1, r2, r3, r4, r5, r6, r7, r8⟩ := box_page HB
    refine bodyPost_ret (v := .agg #[.int .i64 (5 * (x : Int)), .int .i64 p.tx, .int .i64 p.id, .int .i64 p.root, .int .i64 p.count, .slice ka p.ks.length kc, .slice ea p.es.length ec, .int .i64 p.next, .string p.data]) (by simp [results, Try.results37, go_sem, r0, r1, r2, r3, r4, r5, r6, r7, r8]) rfl ?_
    exact ⟨_, rfl, HF.out.1, HF.out.2⟩
  · have hq : (w1.setCell ⟨P, 1, none⟩ (.int .i64 2000000001)).heap[P]? = some (.cells #[.int .i64 p.kind, .int .i64 2000000001, .int .i64 p.id, .int .i64 p.root, .int .i64 p.count, .slice ka p.ks.length kc, .slice ea p.es.length ec, .int .i64 p.next, .string p.data] 28) := by simp [World.setCell, Array.getElem?_modify, st.page]
    obtain ⟨q0, q1, q2, q3, q4, q5, q6, q7, q8⟩ := box_page st.page
    have fp := box_thaw st.page
    have st9 := st.set 1 (.int .i64 2000000001) hq
    clear hq
    obtain ⟨p0, p1, p2, p3, p4, p5, p6, p7, p8⟩ := box_page st9.page
    obtain ⟨r0, r1, r2, r3, r4, r5, r6, r7, r8⟩ := box_page st9.res
    have ff := box_thaw st9.res
    have HB := put9D_box st9.res (.int .i64 p.kind) (.int .i64 2000000001) (.int .i64 p.id) (.int .i64 p.root) (.int .i64 p.count) (.slice ka p.ks.length kc) (.slice ea p.es.length ec) (.int .i64 p.next) (.string p.data)
    have hfin := QSt.done (p := ⟨p.kind, 2000000001, p.id, p.root, p.count, p.ks, p.es, p.next, p.data⟩) st9 ⟨hf.kind, (fit_nat 2000000001 (by omega)), hf.id, hf.root, hf.count, hf.next, hf.data⟩ (show p.ks.length ≤ 21 by omega) (show p.es.length ≤ 21 by omega) hkf hef (by show (-1 : Int) ≤ 2000000001; omega) (.int .i64 p.kind) (.int .i64 2000000001) (.int .i64 p.id) (.int .i64 p.root) (.int .i64 p.count) (.slice ka p.ks.length kc) (.slice ea p.es.length ec) (.int .i64 p.next) (.string p.data)
    have HF : Hid _ := hfin
    clear hfin
    go_wp2
    show bodyPost _ _ _ _ _ (put9D (w1.setCell ⟨P, 1, none⟩ (.int .i64 2000000001)) R (.int .i64 p.kind) (.int .i64 2000000001) (.int .i64 p.id) (.int .i64 p.root) (.int .i64 p.count) (.slice ka p.ks.length kc) (.slice ea p.es.length ec) (.int .i64 p.next) (.string p.data))
    clear r0 r1 r2 r3 r4 r5 r6 r7 r8
    obtain ⟨r0, r1, r2, r3, r4, r5, r6, r7, r8⟩ := box_page HB
    refine bodyPost_ret (v := .agg #[.int .i64 p.kind, .int .i64 2000000001, .int .i64 p.id, .int .i64 p.root, .int .i64 p.count, .slice ka p.ks.length kc, .slice ea p.es.length ec, .int .i64 p.next, .string p.data]) (by simp [results, Try.results37, go_sem, r0, r1, r2, r3, r4, r5, r6, r7, r8]) rfl ?_
    exact ⟨_, rfl, HF.out.1, HF.out.2⟩
  · have hsk := hf.kind
    go_wp2_with fail
    refine (l1Below_any C A B w1 st.cur 2 (by omega) (by omega)).mono ?_
    rintro e w2 ⟨x, rfl, hx, hD_w2, hF_w2⟩
    have stx := st.call hD_w2 hF_w2
    clear hD_w2 hF_w2
    have hq : (w2.setCell ⟨P, 3, none⟩ (.int .i64 (1000 - (x : Int)))).heap[P]? = some (.cells #[.int .i64 p.kind, .int .i64 p.tx, .int .i64 p.id, .int .i64 (1000 - (x : Int)), .int .i64 p.count, .slice ka p.ks.length kc, .slice ea p.es.length ec, .int .i64 p.next, .string p.data] 28) := by simp [World.setCell, Array.getElem?_modify, stx.page]
    obtain ⟨q0, q1, q2, q3, q4, q5, q6, q7, q8⟩ := box_page stx.page
    have fp := box_thaw stx.page
    have st9 := stx.set 3 (.int .i64 (1000 - (x : Int))) hq
    clear hq
    obtain ⟨p0, p1, p2, p3, p4, p5, p6, p7, p8⟩ := box_page st9.page
    obtain ⟨r0, r1, r2, r3, r4, r5, r6, r7, r8⟩ := box_page st9.res
    have ff := box_thaw st9.res
    have HB := put9D_box st9.res (.int .i64 p.kind) (.int .i64 p.tx) (.int .i64 p.id) (.int .i64 (1000 - (x : Int))) (.int .i64 p.count) (.slice ka p.ks.length kc) (.slice ea p.es.length ec) (.int .i64 p.next) (.string p.data)
    have hfin := QSt.done (p := ⟨p.kind, p.tx, p.id, 1000 - (x : Int), p.count, p.ks, p.es, p.next, p.data⟩) st9 ⟨hf.kind, hf.tx, hf.id, (by show I64 (1000 - (x : Int)); unfold I64; omega), hf.count, hf.next, hf.data⟩ (show p.ks.length ≤ 21 by omega) (show p.es.length ≤ 21 by omega) hkf hef (by show -1 ≤ p.tx; omega) (.int .i64 p.kind) (.int .i64 p.tx) (.int .i64 p.id) (.int .i64 (1000 - (x : Int))) (.int .i64 p.count) (.slice ka p.ks.length kc) (.slice ea p.es.length ec) (.int .i64 p.next) (.string p.data)
    have HF : Hid _ := hfin
    clear hfin
    go_wp2
    show bodyPost _ _ _ _ _ (put9D (w2.setCell ⟨P, 3, none⟩ (.int .i64 (1000 - (x : Int)))) R (.int .i64 p.kind) (.int .i64 p.tx) (.int .i64 p.id) (.int .i64 (1000 - (x : Int))) (.int .i64 p.count) (.slice ka p.ks.length kc) (.slice ea p.es.length ec) (.int .i64 p.next) (.string p.data))
    clear r0 r1 r2 r3 r4 r5 r6 r7 r8
    obtain ⟨r0, r1, r2, r3, r4, r5, r6, r7, r8⟩ := box_page HB
    refine bodyPost_ret (v := .agg #[.int .i64 p.kind, .int .i64 p.tx, .int .i64 p.id, .int .i64 (1000 - (x : Int)), .int .i64 p.count, .slice ka p.ks.length kc, .slice ea p.es.length ec, .int .i64 p.next, .string p.data]) (by simp [results, Try.results37, go_sem, r0, r1, r2, r3, r4, r5, r6, r7, r8]) rfl ?_
    exact ⟨_, rfl, HF.out.1, HF.out.2⟩
  · have hq : (w1.setCell ⟨P, 2, none⟩ (.int .i64 0)).heap[P]? = some (.cells #[.int .i64 p.kind, .int .i64 p.tx, .int .i64 0, .int .i64 p.root, .int .i64 p.count, .slice ka p.ks.length kc, .slice ea p.es.length ec, .int .i64 p.next, .string p.data] 28) := by simp [World.setCell, Array.getElem?_modify, st.page]
    obtain ⟨q0, q1, q2, q3, q4, q5, q6, q7, q8⟩ := box_page st.page
    have fp := box_thaw st.page
    have st9 := st.set 2 (.int .i64 0) hq
    clear hq
    obtain ⟨p0, p1, p2, p3, p4, p5, p6, p7, p8⟩ := box_page st9.page
    obtain ⟨r0, r1, r2, r3, r4, r5, r6, r7, r8⟩ := box_page st9.res
    have ff := box_thaw st9.res
    have HB := put9D_box st9.res (.int .i64 p.kind) (.int .i64 p.tx) (.int .i64 0) (.int .i64 p.root) (.int .i64 p.count) (.slice ka p.ks.length kc) (.slice ea p.es.length ec) (.int .i64 p.next) (.string p.data)
    have hfin := QSt.done (p := ⟨p.kind, p.tx, 0, p.root, p.count, p.ks, p.es, p.next, p.data⟩) st9 ⟨hf.kind, hf.tx, (fit_nat 0 (by omega)), hf.root, hf.count, hf.next, hf.data⟩ (show p.ks.length ≤ 21 by omega) (show p.es.length ≤ 21 by omega) hkf hef (by show -1 ≤ p.tx; omega) (.int .i64 p.kind) (.int .i64 p.tx) (.int .i64 0) (.int .i64 p.root) (.int .i64 p.count) (.slice ka p.ks.length kc) (.slice ea p.es.length ec) (.int .i64 p.next) (.string p.data)
    have HF : Hid _ := hfin
    clear hfin
    go_wp2
    show bodyPost _ _ _ _ _ (put9D (w1.setCell ⟨P, 2, none⟩ (.int .i64 0)) R (.int .i64 p.kind) (.int .i64 p.tx) (.int .i64 0) (.int .i64 p.root) (.int .i64 p.count) (.slice ka p.ks.length kc) (.slice ea p.es.length ec) (.int .i64 p.next) (.string p.data))
    clear r0 r1 r2 r3 r4 r5 r6 r7 r8
    obtain ⟨r0, r1, r2, r3, r4, r5, r6, r7, r8⟩ := box_page HB
    refine bodyPost_ret (v := .agg #[.int .i64 p.kind, .int .i64 p.tx, .int .i64 0, .int .i64 p.root, .int .i64 p.count, .slice ka p.ks.length kc, .slice ea p.es.length ec, .int .i64 p.next, .string p.data]) (by simp [results, Try.results37, go_sem, r0, r1, r2, r3, r4, r5, r6, r7, r8]) rfl ?_
    exact ⟨_, rfl, HF.out.1, HF.out.2⟩
  · have hal := heap_alloc_new w1 (.cells #[.string ⟨#[122, 122]⟩, .int .i64 5] 100)
    have hsal := (Below.refl w1.heap.size w1).alloc (Nat.le_refl _) (.cells #[.string ⟨#[122, 122]⟩, .int .i64 5] 100)
    have sta := st.under hsal
    have hP1 := st.ltP
    have hbase : T ≤ (w1.alloc (.cells #[.string ⟨#[122, 122]⟩, .int .i64 5] 100)).heap.size := by have := sta.tP; have := sta.ltP; omega
    obtain ⟨l2, hl2, hlen⟩ : ∃ l2, l2 = p.ks ++ [((⟨#[122, 122]⟩ : ByteArray), (5 : Int))] ∧ p.ks.length + 1 = l2.length := ⟨_, rfl, by simp⟩
    have HL2 : Hid (l2 = p.ks ++ [((⟨#[122, 122]⟩ : ByteArray), (5 : Int))]) := hl2
    have HLen : Hid (p.ks.length + 1 = l2.length) := hlen
    have hl21 : l2.length ≤ 21 := by omega
    have HFit : Hid (∀ x ∈ l2, kidFit x) := by
      intro x hx
      rw [hl2] at hx
      rcases List.mem_append.1 hx with hx | hx
      · exact hkf x hx
      · simp only [List.mem_singleton] at hx; subst hx; exact ⟨(by decide), fit_nat 5 (by omega)⟩
    clear hl2 hlen
    obtain ⟨q0, q1, q2, q3, q4, q5, q6, q7, q8⟩ := box_page st.page
    have fp := box_thaw st.page
    have hkr := sta.krow
    go_wp2_with (at_builtin; refine wpList_kidD rfl _ _ rfl T (.slice ka p.ks.length kc) p.ks.length (rowsOf kidCells p.ks) rfl hkr w1.heap.size ⟨#[122, 122]⟩ 5 rfl hal (by omega) hbase ?_; intro v8 w8 hown8 hgr hlies; have hown9 : w8.ownsRow T 100 2 v8 l2.length (rowsOf kidCells l2) := (by rw [← HLen.out, HL2.out, rowsOf_snoc]; exact hown8); obtain ⟨a8, c8, rfl⟩ := own_shape hown9; have st8 : QSt S T w w8 C A B R P #[.int .i64 p.kind, .int .i64 p.tx, .int .i64 p.id, .int .i64 p.root, .int .i64 p.count, .slice ka p.ks.length kc, .slice ea p.es.length ec, .int .i64 p.next, .string p.data] (.slice a8 l2.length c8) (.slice ea p.es.length ec) l2 p.es := sta.kapp hgr hown9 hlies; clear hown8 hown9 hgr hlies; have hq : (w8.setCell ⟨P, 5, none⟩ (.slice a8 l2.length c8)).heap[P]? = some (.cells #[.int .i64 p.kind, .int .i64 p.tx, .int .i64 p.id, .int .i64 p.root, .int .i64 p.count, .slice a8 l2.length c8, .slice ea p.es.length ec, .int .i64 p.next, .string p.data] 28) := (by simp [World.setCell, Array.getElem?_modify, st8.page]); obtain ⟨y0, y1, y2, y3, y4, y5, y6, y7, y8⟩ := box_page st8.page; have fy := box_thaw st8.page; have st9 := st8.set 5 (.slice a8 l2.length c8) hq; clear hq; obtain ⟨p0, p1, p2, p3, p4, p5, p6, p7, p8⟩ := box_page st9.page; obtain ⟨r0, r1, r2, r3, r4, r5, r6, r7, r8⟩ := box_page st9.res; have ff := box_thaw st9.res)
    have HB := put9D_box st9.res (.int .i64 p.kind) (.int .i64 p.tx) (.int .i64 p.id) (.int .i64 p.root) (.int .i64 p.count) (.slice a8 l2.length c8) (.slice ea p.es.length ec) (.int .i64 p.next) (.string p.data)
    have hfin := QSt.done (p := ⟨p.kind, p.tx, p.id, p.root, p.count, l2, p.es, p.next, p.data⟩) st9 ⟨hf.kind, hf.tx, hf.id, hf.root, hf.count, hf.next, hf.data⟩ hl21 (show p.es.length ≤ 21 by omega) HFit.out hef (by show -1 ≤ p.tx; omega) (.int .i64 p.kind) (.int .i64 p.tx) (.int .i64 p.id) (.int .i64 p.root) (.int .i64 p.count) (.slice a8 l2.length c8) (.slice ea p.es.length ec) (.int .i64 p.next) (.string p.data)
    show bodyPost _ _ _ _ _ (put9D (w8.setCell ⟨P, 5, none⟩ (.slice a8 l2.length c8)) R (.int .i64 p.kind) (.int .i64 p.tx) (.int .i64 p.id) (.int .i64 p.root) (.int .i64 p.count) (.slice a8 l2.length c8) (.slice ea p.es.length ec) (.int .i64 p.next) (.string p.data))
    clear r0 r1 r2 r3 r4 r5 r6 r7 r8
    obtain ⟨r0, r1, r2, r3, r4, r5, r6, r7, r8⟩ := box_page HB
    refine bodyPost_ret (v := .agg #[.int .i64 p.kind, .int .i64 p.tx, .int .i64 p.id, .int .i64 p.root, .int .i64 p.count, .slice a8 l2.length c8, .slice ea p.es.length ec, .int .i64 p.next, .string p.data]) (by simp [results, Try.results37, go_sem, r0, r1, r2, r3, r4, r5, r6, r7, r8]) rfl ?_
    exact ⟨_, rfl, hfin.1, hfin.2⟩
  · have hal := heap_alloc_new w1 (.cells #[.string ⟨#[122, 122]⟩, .string ⟨#[118]⟩, .int .i64 0, .int .i64 1] 102)
    have hsal := (Below.refl w1.heap.size w1).alloc (Nat.le_refl _) (.cells #[.string ⟨#[122, 122]⟩, .string ⟨#[118]⟩, .int .i64 0, .int .i64 1] 102)
    have sta := st.under hsal
    have hP1 := st.ltP
    have hbase : T ≤ (w1.alloc (.cells #[.string ⟨#[122, 122]⟩, .string ⟨#[118]⟩, .int .i64 0, .int .i64 1] 102)).heap.size := by have := sta.tP; have := sta.ltP; omega
    obtain ⟨l2, hl2, hlen⟩ : ∃ l2, l2 = p.es ++ [((⟨#[122, 122]⟩ : ByteArray), (⟨#[118]⟩ : ByteArray), (0 : Int), (1 : Int))] ∧ p.es.length + 1 = l2.length := ⟨_, rfl, by simp⟩
    have HL2 : Hid (l2 = p.es ++ [((⟨#[122, 122]⟩ : ByteArray), (⟨#[118]⟩ : ByteArray), (0 : Int), (1 : Int))]) := hl2
    have HLen : Hid (p.es.length + 1 = l2.length) := hlen
    have hl21 : l2.length ≤ 21 := by omega
    have HFit : Hid (∀ x ∈ l2, entFit x) := by
      intro x hx
      rw [hl2] at hx
      rcases List.mem_append.1 hx with hx | hx
      · exact hef x hx
      · simp only [List.mem_singleton] at hx; subst hx; exact ⟨(by decide), (by decide), fit_nat 0 (by omega), fit_nat 1 (by omega)⟩
    clear hl2 hlen
    obtain ⟨q0, q1, q2, q3, q4, q5, q6, q7, q8⟩ := box_page st.page
    have fp := box_thaw st.page
    have hkr := sta.erow
    go_wp2_with (at_builtin; refine wpList_entD rfl _ _ rfl T (.slice ea p.es.length ec) p.es.length (rowsOf entCells p.es) rfl hkr w1.heap.size (⟨#[122, 122]⟩, ⟨#[118]⟩, 0, 1) rfl hal (by omega) hbase ?_; intro v8 w8 hown8 hgr hlies; have hown9 : w8.ownsRow T 102 4 v8 l2.length (rowsOf entCells l2) := (by rw [← HLen.out, HL2.out, rowsOf_snoc]; exact hown8); obtain ⟨a8, c8, rfl⟩ := own_shape hown9; have st8 : QSt S T w w8 C A B R P #[.int .i64 p.kind, .int .i64 p.tx, .int .i64 p.id, .int .i64 p.root, .int .i64 p.count, .slice ka p.ks.length kc, .slice ea p.es.length ec, .int .i64 p.next, .string p.data] (.slice ka p.ks.length kc) (.slice a8 l2.length c8) p.ks l2 := sta.eapp hgr hown9 hlies; clear hown8 hown9 hgr hlies; have hq : (w8.setCell ⟨P, 6, none⟩ (.slice a8 l2.length c8)).heap[P]? = some (.cells #[.int .i64 p.kind, .int .i64 p.tx, .int .i64 p.id, .int .i64 p.root, .int .i64 p.count, .slice ka p.ks.length kc, .slice a8 l2.length c8, .int .i64 p.next, .string p.data] 28) := (by simp [World.setCell, Array.getElem?_modify, st8.page]); obtain ⟨y0, y1, y2, y3, y4, y5, y6, y7, y8⟩ := box_page st8.page; have fy := box_thaw st8.page; have st9 := st8.set 6 (.slice a8 l2.length c8) hq; clear hq; obtain ⟨p0, p1, p2, p3, p4, p5, p6, p7, p8⟩ := box_page st9.page; obtain ⟨r0, r1, r2, r3, r4, r5, r6, r7, r8⟩ := box_page st9.res; have ff := box_thaw st9.res)
    have HB := put9D_box st9.res (.int .i64 p.kind) (.int .i64 p.tx) (.int .i64 p.id) (.int .i64 p.root) (.int .i64 p.count) (.slice ka p.ks.length kc) (.slice a8 l2.length c8) (.int .i64 p.next) (.string p.data)
    have hfin := QSt.done (p := ⟨p.kind, p.tx, p.id, p.root, p.count, p.ks, l2, p.next, p.data⟩) st9 ⟨hf.kind, hf.tx, hf.id, hf.root, hf.count, hf.next, hf.data⟩ (show p.ks.length ≤ 21 by omega) hl21 hkf HFit.out (by show -1 ≤ p.tx; omega) (.int .i64 p.kind) (.int .i64 p.tx) (.int .i64 p.id) (.int .i64 p.root) (.int .i64 p.count) (.slice ka p.ks.length kc) (.slice a8 l2.length c8) (.int .i64 p.next) (.string p.data)
    show bodyPost _ _ _ _ _ (put9D (w8.setCell ⟨P, 6, none⟩ (.slice a8 l2.length c8)) R (.int .i64 p.kind) (.int .i64 p.tx) (.int .i64 p.id) (.int .i64 p.root) (.int .i64 p.count) (.slice ka p.ks.length kc) (.slice a8 l2.length c8) (.int .i64 p.next) (.string p.data))
    clear r0 r1 r2 r3 r4 r5 r6 r7 r8
    obtain ⟨r0, r1, r2, r3, r4, r5, r6, r7, r8⟩ := box_page HB
    refine bodyPost_ret (v := .agg #[.int .i64 p.kind, .int .i64 p.tx, .int .i64 p.id, .int .i64 p.root, .int .i64 p.count, .slice ka p.ks.length kc, .slice a8 l2.length c8, .int .i64 p.next, .string p.data]) (by simp [results, Try.results37, go_sem, r0, r1, r2, r3, r4, r5, r6, r7, r8]) rfl ?_
    exact ⟨_, rfl, hfin.1, hfin.2⟩
  · have hP1 := st.ltP
    obtain ⟨q0, q1, q2, q3, q4, q5, q6, q7, q8⟩ := box_page st.page
    have fp := box_thaw st.page
    go_wp2_with fail
    go_region_law (first
      | (refine step_entsA rfl _ _ rfl (((⟨#[113]⟩ : ByteArray), (⟨#[]⟩ : ByteArray), (3 : Int), IntKind.i64.wrap (8 + (x : Int))) : PE) (by simp [Act.eval]) T ea ec p.es (by simp [Act.eval]) hE3 (by omega) ?_; intro v6 w6 hO6 hb6; obtain ⟨l2, hl2⟩ : ∃ l2, l2 = (((⟨#[113]⟩ : ByteArray), (⟨#[]⟩ : ByteArray), (3 : Int), IntKind.i64.wrap (8 + (x : Int))) : PE) :: p.es := ⟨_, rfl⟩; rw [← hl2] at hO6; have HL2 : Hid (l2 = (((⟨#[113]⟩ : ByteArray), (⟨#[]⟩ : ByteArray), (3 : Int), IntKind.i64.wrap (8 + (x : Int))) : PE) :: p.es) := hl2; clear hl2; obtain ⟨a8, c8, rfl⟩ := own_shape hO6; have st6 := st2.enew hb6 hO6; obtain ⟨y0, y1, y2, y3, y4, y5, y6, y7, y8⟩ := box_page st6.page; have fy := box_thaw st6.page)
      | (go_simp; go_at_call 72; refine (l1Below_any C A B w1.drew (st.cur.below ((Below.refl _ _).drew)) 2 (by omega) (by omega)).mono ?_; rintro e w2 ⟨x, rfl, hx, hD2, hF2⟩; have st2 := (st.under ((Below.refl _ _).drew)).call hD2 hF2; obtain ⟨z0, z1, z2, z3, z4, z5, z6, z7, z8⟩ := box_page st2.page; have fz := box_thaw st2.page; have hP2 := st2.ltP; have hE3 := st2.erow))
    all_goals
      have hl21 : l2.length ≤ 21 := by rw [HL2.out, List.length_cons]; omega
      have hwr : IntKind.i64.wrap (8 + (x : Int)) = 8 + (x : Int) := by rw [IntKind.wrap_i64]; omega
      have HFit : Hid (∀ y ∈ l2, entFit y) := by
        intro y hy
        rw [HL2.out] at hy
        rcases List.mem_cons.1 hy with hy | hy
        · subst hy; exact ⟨(by show (⟨#[113]⟩ : ByteArray).size ≤ maxLen; decide), (by show (⟨#[]⟩ : ByteArray).size ≤ maxLen; decide), fit_nat 3 (by omega), (by show I64 (IntKind.i64.wrap (8 + (x : Int))); rw [hwr]; unfold I64; omega)⟩
        · exact hef y hy
      clear hwr
      have hq : (w6.setCell ⟨P, 6, none⟩ (.slice a8 l2.length c8)).heap[P]? = some (.cells #[.int .i64 p.kind, .int .i64 p.tx, .int .i64 p.id, .int .i64 p.root, .int .i64 p.count, .slice ka p.ks.length kc, .slice a8 l2.length c8, .int .i64 p.next, .string p.data] 28) := by simp [World.setCell, Array.getElem?_modify, st6.page]
      have st9 := st6.set 6 (.slice a8 l2.length c8) hq
      clear hq y0 y1 y2 y3 y4 y5 y6 y7 y8 fy z0 z1 z2 z3 z4 z5 z6 z7 z8 fz st6 st2 hb6 hO6 hD2 hF2 hE3 q0 q1 q2 q3 q4 q5 q6 q7 q8 fp
      obtain ⟨p0, p1, p2, p3, p4, p5, p6, p7, p8⟩ := box_page st9.page
      obtain ⟨r0, r1, r2, r3, r4, r5, r6, r7, r8⟩ := box_page st9.res
      have ff := box_thaw st9.res
      have HB := put9D_box st9.res (.int .i64 p.kind) (.int .i64 p.tx) (.int .i64 p.id) (.int .i64 p.root) (.int .i64 p.count) (.slice ka p.ks.length kc) (.slice a8 l2.length c8) (.int .i64 p.next) (.string p.data)
      have hfin := QSt.done (p := ⟨p.kind, p.tx, p.id, p.root, p.count, p.ks, l2, p.next, p.data⟩) st9 ⟨hf.kind, hf.tx, hf.id, hf.root, hf.count, hf.next, hf.data⟩ (show p.ks.length ≤ 21 by omega) hl21 hkf HFit.out (by show -1 ≤ p.tx; omega) (.int .i64 p.kind) (.int .i64 p.tx) (.int .i64 p.id) (.int .i64 p.root) (.int .i64 p.count) (.slice ka p.ks.length kc) (.slice a8 l2.length c8) (.int .i64 p.next) (.string p.data)
      have HF : Hid _ := hfin
      clear hfin
      go_wp2
      show bodyPost _ _ _ _ _ (put9D (w6.setCell ⟨P, 6, none⟩ (.slice a8 l2.length c8)) R (.int .i64 p.kind) (.int .i64 p.tx) (.int .i64 p.id) (.int .i64 p.root) (.int .i64 p.count) (.slice ka p.ks.length kc) (.slice a8 l2.length c8) (.int .i64 p.next) (.string p.data))
      clear r0 r1 r2 r3 r4 r5 r6 r7 r8
      obtain ⟨r0, r1, r2, r3, r4, r5, r6, r7, r8⟩ := box_page HB
      refine bodyPost_ret (v := .agg #[.int .i64 p.kind, .int .i64 p.tx, .int .i64 p.id, .int .i64 p.root, .int .i64 p.count, .slice ka p.ks.length kc, .slice a8 l2.length c8, .int .i64 p.next, .string p.data]) (by simp [results, Try.results37, go_sem, r0, r1, r2, r3, r4, r5, r6, r7, r8]) rfl ?_
      exact ⟨_, rfl, HF.out.1, HF.out.2⟩
  · have hsk := hf.kind
    go_wp2_with fail
    refine (l1Below_any C A B w1 st.cur 3 (by omega) (by omega)).mono ?_
    rintro e w2 ⟨x, rfl, hx, hD_w2, hF_w2⟩
    have stx := st.call hD_w2 hF_w2
    clear hD_w2 hF_w2
    have hq : (w2.setCell ⟨P, 7, none⟩ (.int .i64 (x : Int))).heap[P]? = some (.cells #[.int .i64 p.kind, .int .i64 p.tx, .int .i64 p.id, .int .i64 p.root, .int .i64 p.count, .slice ka p.ks.length kc, .slice ea p.es.length ec, .int .i64 (x : Int), .string p.data] 28) := by simp [World.setCell, Array.getElem?_modify, stx.page]
    obtain ⟨q0, q1, q2, q3, q4, q5, q6, q7, q8⟩ := box_page stx.page
    have fp := box_thaw stx.page
    have st9 := stx.set 7 (.int .i64 (x : Int)) hq
    clear hq
    obtain ⟨p0, p1, p2, p3, p4, p5, p6, p7, p8⟩ := box_page st9.page
    obtain ⟨r0, r1, r2, r3, r4, r5, r6, r7, r8⟩ := box_page st9.res
    have ff := box_thaw st9.res
    have HB := put9D_box st9.res (.int .i64 p.kind) (.int .i64 p.tx) (.int .i64 p.id) (.int .i64 p.root) (.int .i64 p.count) (.slice ka p.ks.length kc) (.slice ea p.es.length ec) (.int .i64 (x : Int)) (.string p.data)
    have hfin := QSt.done (p := ⟨p.kind, p.tx, p.id, p.root, p.count, p.ks, p.es, (x : Int), p.data⟩) st9 ⟨hf.kind, hf.tx, hf.id, hf.root, hf.count, (by show I64 (x : Int); unfold I64; omega), hf.data⟩ (show p.ks.length ≤ 21 by omega) (show p.es.length ≤ 21 by omega) hkf hef (by show -1 ≤ p.tx; omega) (.int .i64 p.kind) (.int .i64 p.tx) (.int .i64 p.id) (.int .i64 p.root) (.int .i64 p.count) (.slice ka p.ks.length kc) (.slice ea p.es.length ec) (.int .i64 (x : Int)) (.string p.data)
    have HF : Hid _ := hfin
    clear hfin
    go_wp2
    show bodyPost _ _ _ _ _ (put9D (w2.setCell ⟨P, 7, none⟩ (.int .i64 (x : Int))) R (.int .i64 p.kind) (.int .i64 p.tx) (.int .i64 p.id) (.int .i64 p.root) (.int .i64 p.count) (.slice ka p.ks.length kc) (.slice ea p.es.length ec) (.int .i64 (x : Int)) (.string p.data))
    clear r0 r1 r2 r3 r4 r5 r6 r7 r8
    obtain ⟨r0, r1, r2, r3, r4, r5, r6, r7, r8⟩ := box_page HB
    refine bodyPost_ret (v := .agg #[.int .i64 p.kind, .int .i64 p.tx, .int .i64 p.id, .int .i64 p.root, .int .i64 p.count, .slice ka p.ks.length kc, .slice ea p.es.length ec, .int .i64 (x : Int), .string p.data]) (by simp [results, Try.results37, go_sem, r0, r1, r2, r3, r4, r5, r6, r7, r8]) rfl ?_
    exact ⟨_, rfl, HF.out.1, HF.out.2⟩
  · go_wp2_with fail
    refine (l1Below_any C A B w1 st.cur 2 (by omega) (by omega)).mono ?_
    rintro e w2 ⟨x, rfl, hx, hD_w2, hF_w2⟩
    have stx := st.call hD_w2 hF_w2
    clear hD_w2 hF_w2
    go_wp2_with fail
    refine (l1Many_any ⟨#[120]⟩ (by decide) (96 + x) (by omega) w2).mono ?_
    rintro e w3 ⟨t, rfl, ht, hb3⟩
    have sty := stx.under hb3
    have htz : t.size ≤ 1000 := by rw [ht]; simp [ByteArray.size]; omega
    clear ht hb3
    have hq : (w3.setCell ⟨P, 8, none⟩ (.string t)).heap[P]? = some (.cells #[.int .i64 p.kind, .int .i64 p.tx, .int .i64 p.id, .int .i64 p.root, .int .i64 p.count, .slice ka p.ks.length kc, .slice ea p.es.length ec, .int .i64 p.next, .string t] 28) := by simp [World.setCell, Array.getElem?_modify, sty.page]
    obtain ⟨q0, q1, q2, q3, q4, q5, q6, q7, q8⟩ := box_page sty.page
    have fp := box_thaw sty.page
    have st9 := sty.set 8 (.string t) hq
    clear hq
    obtain ⟨p0, p1, p2, p3, p4, p5, p6, p7, p8⟩ := box_page st9.page
    obtain ⟨r0, r1, r2, r3, r4, r5, r6, r7, r8⟩ := box_page st9.res
    have ff := box_thaw st9.res
    have HB := put9D_box st9.res (.int .i64 p.kind) (.int .i64 p.tx) (.int .i64 p.id) (.int .i64 p.root) (.int .i64 p.count) (.slice ka p.ks.length kc) (.slice ea p.es.length ec) (.int .i64 p.next) (.string t)
    have hfin := QSt.done (p := ⟨p.kind, p.tx, p.id, p.root, p.count, p.ks, p.es, p.next, t⟩) st9 ⟨hf.kind, hf.tx, hf.id, hf.root, hf.count, hf.next, (by unfold maxLen; show t.size ≤ _; omega)⟩ (show p.ks.length ≤ 21 by omega) (show p.es.length ≤ 21 by omega) hkf hef (by show -1 ≤ p.tx; omega) (.int .i64 p.kind) (.int .i64 p.tx) (.int .i64 p.id) (.int .i64 p.root) (.int .i64 p.count) (.slice ka p.ks.length kc) (.slice ea p.es.length ec) (.int .i64 p.next) (.string t)
    have HF : Hid _ := hfin
    clear hfin
    go_wp2
    show bodyPost _ _ _ _ _ (put9D (w3.setCell ⟨P, 8, none⟩ (.string t)) R (.int .i64 p.kind) (.int .i64 p.tx) (.int .i64 p.id) (.int .i64 p.root) (.int .i64 p.count) (.slice ka p.ks.length kc) (.slice ea p.es.length ec) (.int .i64 p.next) (.string t))
    clear r0 r1 r2 r3 r4 r5 r6 r7 r8
    obtain ⟨r0, r1, r2, r3, r4, r5, r6, r7, r8⟩ := box_page HB
    refine bodyPost_ret (v := .agg #[.int .i64 p.kind, .int .i64 p.tx, .int .i64 p.id, .int .i64 p.root, .int .i64 p.count, .slice ka p.ks.length kc, .slice ea p.es.length ec, .int .i64 p.next, .string t]) (by simp [results, Try.results37, go_sem, r0, r1, r2, r3, r4, r5, r6, r7, r8]) rfl ?_
    exact ⟨_, rfl, HF.out.1, HF.out.2⟩
  · have hal := heap_alloc_new w1 (.cells #[.string ⟨#[110, 105, 110, 101, 99, 104, 97, 114, 115]⟩, .string ⟨#[]⟩, .int .i64 0, .int .i64 0] 102)
    have hsal := (Below.refl w1.heap.size w1).alloc (Nat.le_refl _) (.cells #[.string ⟨#[110, 105, 110, 101, 99, 104, 97, 114, 115]⟩, .string ⟨#[]⟩, .int .i64 0, .int .i64 0] 102)
    have sta := st.under hsal
    have hP1 := st.ltP
    have hbase : T ≤ (w1.alloc (.cells #[.string ⟨#[110, 105, 110, 101, 99, 104, 97, 114, 115]⟩, .string ⟨#[]⟩, .int .i64 0, .int .i64 0] 102)).heap.size := by have := sta.tP; have := sta.ltP; omega
    obtain ⟨l2, hl2, hlen⟩ : ∃ l2, l2 = p.es ++ [((⟨#[110, 105, 110, 101, 99, 104, 97, 114, 115]⟩ : ByteArray), (⟨#[]⟩ : ByteArray), (0 : Int), (0 : Int))] ∧ p.es.length + 1 = l2.length := ⟨_, rfl, by simp⟩
    have HL2 : Hid (l2 = p.es ++ [((⟨#[110, 105, 110, 101, 99, 104, 97, 114, 115]⟩ : ByteArray), (⟨#[]⟩ : ByteArray), (0 : Int), (0 : Int))]) := hl2
    have HLen : Hid (p.es.length + 1 = l2.length) := hlen
    have hl21 : l2.length ≤ 21 := by omega
    have HFit : Hid (∀ x ∈ l2, entFit x) := by
      intro x hx
      rw [hl2] at hx
      rcases List.mem_append.1 hx with hx | hx
      · exact hef x hx
      · simp only [List.mem_singleton] at hx; subst hx; exact ⟨(by decide), (by decide), fit_nat 0 (by omega), fit_nat 0 (by omega)⟩
    clear hl2 hlen
    obtain ⟨q0, q1, q2, q3, q4, q5, q6, q7, q8⟩ := box_page st.page
    have fp := box_thaw st.page
    have hkr := sta.erow
    go_wp2_with (at_builtin; refine wpList_entD rfl _ _ rfl T (.slice ea p.es.length ec) p.es.length (rowsOf entCells p.es) rfl hkr w1.heap.size (⟨#[110, 105, 110, 101, 99, 104, 97, 114, 115]⟩, ⟨#[]⟩, 0, 0) rfl hal (by omega) hbase ?_; intro v8 w8 hown8 hgr hlies; have hown9 : w8.ownsRow T 102 4 v8 l2.length (rowsOf entCells l2) := (by rw [← HLen.out, HL2.out, rowsOf_snoc]; exact hown8); obtain ⟨a8, c8, rfl⟩ := own_shape hown9; have st8 : QSt S T w w8 C A B R P #[.int .i64 p.kind, .int .i64 p.tx, .int .i64 p.id, .int .i64 p.root, .int .i64 p.count, .slice ka p.ks.length kc, .slice ea p.es.length ec, .int .i64 p.next, .string p.data] (.slice ka p.ks.length kc) (.slice a8 l2.length c8) p.ks l2 := sta.eapp hgr hown9 hlies; clear hown8 hown9 hgr hlies; have hq : (w8.setCell ⟨P, 6, none⟩ (.slice a8 l2.length c8)).heap[P]? = some (.cells #[.int .i64 p.kind, .int .i64 p.tx, .int .i64 p.id, .int .i64 p.root, .int .i64 p.count, .slice ka p.ks.length kc, .slice a8 l2.length c8, .int .i64 p.next, .string p.data] 28) := (by simp [World.setCell, Array.getElem?_modify, st8.page]); obtain ⟨y0, y1, y2, y3, y4, y5, y6, y7, y8⟩ := box_page st8.page; have fy := box_thaw st8.page; have st9 := st8.set 6 (.slice a8 l2.length c8) hq; clear hq; obtain ⟨p0, p1, p2, p3, p4, p5, p6, p7, p8⟩ := box_page st9.page; obtain ⟨r0, r1, r2, r3, r4, r5, r6, r7, r8⟩ := box_page st9.res; have ff := box_thaw st9.res)
    have HB := put9D_box st9.res (.int .i64 p.kind) (.int .i64 p.tx) (.int .i64 p.id) (.int .i64 p.root) (.int .i64 p.count) (.slice ka p.ks.length kc) (.slice a8 l2.length c8) (.int .i64 p.next) (.string p.data)
    have hfin := QSt.done (p := ⟨p.kind, p.tx, p.id, p.root, p.count, p.ks, l2, p.next, p.data⟩) st9 ⟨hf.kind, hf.tx, hf.id, hf.root, hf.count, hf.next, hf.data⟩ (show p.ks.length ≤ 21 by omega) hl21 hkf HFit.out (by show -1 ≤ p.tx; omega) (.int .i64 p.kind) (.int .i64 p.tx) (.int .i64 p.id) (.int .i64 p.root) (.int .i64 p.count) (.slice ka p.ks.length kc) (.slice a8 l2.length c8) (.int .i64 p.next) (.string p.data)
    show bodyPost _ _ _ _ _ (put9D (w8.setCell ⟨P, 6, none⟩ (.slice a8 l2.length c8)) R (.int .i64 p.kind) (.int .i64 p.tx) (.int .i64 p.id) (.int .i64 p.root) (.int .i64 p.count) (.slice ka p.ks.length kc) (.slice a8 l2.length c8) (.int .i64 p.next) (.string p.data))
    clear r0 r1 r2 r3 r4 r5 r6 r7 r8
    obtain ⟨r0, r1, r2, r3, r4, r5, r6, r7, r8⟩ := box_page HB
    refine bodyPost_ret (v := .agg #[.int .i64 p.kind, .int .i64 p.tx, .int .i64 p.id, .int .i64 p.root, .int .i64 p.count, .slice ka p.ks.length kc, .slice a8 l2.length c8, .int .i64 p.next, .string p.data]) (by simp [results, Try.results37, go_sem, r0, r1, r2, r3, r4, r5, r6, r7, r8]) rfl ?_
    exact ⟨_, rfl, hfin.1, hfin.2⟩
  · have htx := hf.tx
    unfold I64 at htx
    have hq : (w1.setCell ⟨P, 1, none⟩ (.int .i64 (p.tx - 1))).heap[P]? = some (.cells #[.int .i64 p.kind, .int .i64 (p.tx - 1), .int .i64 p.id, .int .i64 p.root, .int .i64 p.count, .slice ka p.ks.length kc, .slice ea p.es.length ec, .int .i64 p.next, .string p.data] 28) := by simp [World.setCell, Array.getElem?_modify, st.page]
    obtain ⟨q0, q1, q2, q3, q4, q5, q6, q7, q8⟩ := box_page st.page
    have fp := box_thaw st.page
    have st9 := st.set 1 (.int .i64 (p.tx - 1)) hq
    clear hq
    obtain ⟨p0, p1, p2, p3, p4, p5, p6, p7, p8⟩ := box_page st9.page
    obtain ⟨r0, r1, r2, r3, r4, r5, r6, r7, r8⟩ := box_page st9.res
    have ff := box_thaw st9.res
    have HB := put9D_box st9.res (.int .i64 p.kind) (.int .i64 (p.tx - 1)) (.int .i64 p.id) (.int .i64 p.root) (.int .i64 p.count) (.slice ka p.ks.length kc) (.slice ea p.es.length ec) (.int .i64 p.next) (.string p.data)
    have hfin := QSt.done (p := ⟨p.kind, p.tx - 1, p.id, p.root, p.count, p.ks, p.es, p.next, p.data⟩) st9 ⟨hf.kind, (by show I64 (p.tx - 1); unfold I64; omega), hf.id, hf.root, hf.count, hf.next, hf.data⟩ (show p.ks.length ≤ 21 by omega) (show p.es.length ≤ 21 by omega) hkf hef (by show -1 ≤ p.tx - 1; omega) (.int .i64 p.kind) (.int .i64 (p.tx - 1)) (.int .i64 p.id) (.int .i64 p.root) (.int .i64 p.count) (.slice ka p.ks.length kc) (.slice ea p.es.length ec) (.int .i64 p.next) (.string p.data)
    have HF : Hid _ := hfin
    clear hfin
    go_wp2
    show bodyPost _ _ _ _ _ (put9D (w1.setCell ⟨P, 1, none⟩ (.int .i64 (p.tx - 1))) R (.int .i64 p.kind) (.int .i64 (p.tx - 1)) (.int .i64 p.id) (.int .i64 p.root) (.int .i64 p.count) (.slice ka p.ks.length kc) (.slice ea p.es.length ec) (.int .i64 p.next) (.string p.data))
    clear r0 r1 r2 r3 r4 r5 r6 r7 r8
    obtain ⟨r0, r1, r2, r3, r4, r5, r6, r7, r8⟩ := box_page HB
    refine bodyPost_ret (v := .agg #[.int .i64 p.kind, .int .i64 (p.tx - 1), .int .i64 p.id, .int .i64 p.root, .int .i64 p.count, .slice ka p.ks.length kc, .slice ea p.es.length ec, .int .i64 p.next, .string p.data]) (by simp [results, Try.results37, go_sem, r0, r1, r2, r3, r4, r5, r6, r7, r8]) rfl ?_
    exact ⟨_, rfl, HF.out.1, HF.out.2⟩
  · have hal := heap_alloc_new w1 (.cells #[.string ⟨#[122, 121]⟩, .string ⟨#[110, 105, 110, 101, 99, 104, 97, 114, 115]⟩, .int .i64 0, .int .i64 9] 102)
    have hsal := (Below.refl w1.heap.size w1).alloc (Nat.le_refl _) (.cells #[.string ⟨#[122, 121]⟩, .string ⟨#[110, 105, 110, 101, 99, 104, 97, 114, 115]⟩, .int .i64 0, .int .i64 9] 102)
    have sta := st.under hsal
    have hP1 := st.ltP
    have hbase : T ≤ (w1.alloc (.cells #[.string ⟨#[122, 121]⟩, .string ⟨#[110, 105, 110, 101, 99, 104, 97, 114, 115]⟩, .int .i64 0, .int .i64 9] 102)).heap.size := by have := sta.tP; have := sta.ltP; omega
    obtain ⟨l2, hl2, hlen⟩ : ∃ l2, l2 = p.es ++ [((⟨#[122, 121]⟩ : ByteArray), (⟨#[110, 105, 110, 101, 99, 104, 97, 114, 115]⟩ : ByteArray), (0 : Int), (9 : Int))] ∧ p.es.length + 1 = l2.length := ⟨_, rfl, by simp⟩
    have HL2 : Hid (l2 = p.es ++ [((⟨#[122, 121]⟩ : ByteArray), (⟨#[110, 105, 110, 101, 99, 104, 97, 114, 115]⟩ : ByteArray), (0 : Int), (9 : Int))]) := hl2
    have HLen : Hid (p.es.length + 1 = l2.length) := hlen
    have hl21 : l2.length ≤ 21 := by omega
    have HFit : Hid (∀ x ∈ l2, entFit x) := by
      intro x hx
      rw [hl2] at hx
      rcases List.mem_append.1 hx with hx | hx
      · exact hef x hx
      · simp only [List.mem_singleton] at hx; subst hx; exact ⟨(by decide), (by decide), fit_nat 0 (by omega), fit_nat 9 (by omega)⟩
    clear hl2 hlen
    obtain ⟨q0, q1, q2, q3, q4, q5, q6, q7, q8⟩ := box_page st.page
    have fp := box_thaw st.page
    have hkr := sta.erow
    go_wp2_with (at_builtin; refine wpList_entD rfl _ _ rfl T (.slice ea p.es.length ec) p.es.length (rowsOf entCells p.es) rfl hkr w1.heap.size (⟨#[122, 121]⟩, ⟨#[110, 105, 110, 101, 99, 104, 97, 114, 115]⟩, 0, 9) rfl hal (by omega) hbase ?_; intro v8 w8 hown8 hgr hlies; have hown9 : w8.ownsRow T 102 4 v8 l2.length (rowsOf entCells l2) := (by rw [← HLen.out, HL2.out, rowsOf_snoc]; exact hown8); obtain ⟨a8, c8, rfl⟩ := own_shape hown9; have st8 : QSt S T w w8 C A B R P #[.int .i64 p.kind, .int .i64 p.tx, .int .i64 p.id, .int .i64 p.root, .int .i64 p.count, .slice ka p.ks.length kc, .slice ea p.es.length ec, .int .i64 p.next, .string p.data] (.slice ka p.ks.length kc) (.slice a8 l2.length c8) p.ks l2 := sta.eapp hgr hown9 hlies; clear hown8 hown9 hgr hlies; have hq : (w8.setCell ⟨P, 6, none⟩ (.slice a8 l2.length c8)).heap[P]? = some (.cells #[.int .i64 p.kind, .int .i64 p.tx, .int .i64 p.id, .int .i64 p.root, .int .i64 p.count, .slice ka p.ks.length kc, .slice a8 l2.length c8, .int .i64 p.next, .string p.data] 28) := (by simp [World.setCell, Array.getElem?_modify, st8.page]); obtain ⟨y0, y1, y2, y3, y4, y5, y6, y7, y8⟩ := box_page st8.page; have fy := box_thaw st8.page; have st9 := st8.set 6 (.slice a8 l2.length c8) hq; clear hq; obtain ⟨p0, p1, p2, p3, p4, p5, p6, p7, p8⟩ := box_page st9.page; obtain ⟨r0, r1, r2, r3, r4, r5, r6, r7, r8⟩ := box_page st9.res; have ff := box_thaw st9.res)
    have HB := put9D_box st9.res (.int .i64 p.kind) (.int .i64 p.tx) (.int .i64 p.id) (.int .i64 p.root) (.int .i64 p.count) (.slice ka p.ks.length kc) (.slice a8 l2.length c8) (.int .i64 p.next) (.string p.data)
    have hfin := QSt.done (p := ⟨p.kind, p.tx, p.id, p.root, p.count, p.ks, l2, p.next, p.data⟩) st9 ⟨hf.kind, hf.tx, hf.id, hf.root, hf.count, hf.next, hf.data⟩ (show p.ks.length ≤ 21 by omega) hl21 hkf HFit.out (by show -1 ≤ p.tx; omega) (.int .i64 p.kind) (.int .i64 p.tx) (.int .i64 p.id) (.int .i64 p.root) (.int .i64 p.count) (.slice ka p.ks.length kc) (.slice a8 l2.length c8) (.int .i64 p.next) (.string p.data)
    show bodyPost _ _ _ _ _ (put9D (w8.setCell ⟨P, 6, none⟩ (.slice a8 l2.length c8)) R (.int .i64 p.kind) (.int .i64 p.tx) (.int .i64 p.id) (.int .i64 p.root) (.int .i64 p.count) (.slice ka p.ks.length kc) (.slice a8 l2.length c8) (.int .i64 p.next) (.string p.data))
    clear r0 r1 r2 r3 r4 r5 r6 r7 r8
    obtain ⟨r0, r1, r2, r3, r4, r5, r6, r7, r8⟩ := box_page HB
    refine bodyPost_ret (v := .agg #[.int .i64 p.kind, .int .i64 p.tx, .int .i64 p.id, .int .i64 p.root, .int .i64 p.count, .slice ka p.ks.length kc, .slice a8 l2.length c8, .int .i64 p.next, .string p.data]) (by simp [results, Try.results37, go_sem, r0, r1, r2, r3, r4, r5, r6, r7, r8]) rfl ?_
    exact ⟨_, rfl, hfin.1, hfin.2⟩
end Go.Proofs.Ytcmhobbpeaeebaa
