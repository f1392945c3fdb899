import Derived.Test.YtpiipnfhinbimaaJL
namespace Go.Proofs.Ytpiipnfhinbimaa
namespace New
open Go.RowKit
set_option linter.unusedVariables false
set_option maxRecDepth 100000

/-- What decoding answers. -/
def zPg : Pg := ⟨0, 0, 0, 0, 0, [], [], 0, ⟨#[]⟩⟩
def decR (bs : List Int) : Bool × Pg := if bs.length = 128 ∧ newCodeOf (decP bs) = bs then (true, decP bs) else (false, zPg)
theorem none_own (n c : Nat) (g : Nat) : (Value.slice none n c).ownBlock = some g → False := by intro h; simp [Value.ownBlock] at h
theorem dec_impl (a : Option Addr) (n c : Nat) (bs : List Int) (w : World) (A B : Nat) (hB : B ≤ w.heap.size) (hb : BytesAt w A B a n c bs) :
    Calls Try.prog 25 #[.slice a n c] w fun e w' => ∃ ka kc ea ec, e = .returned (.agg #[.bool (decR bs).1, .int .i64 (decR bs).2.kind, .int .i64 (decR bs).2.tx, .int .i64 (decR bs).2.id, .int .i64 (decR bs).2.root, .int .i64 (decR bs).2.count, .slice ka (decR bs).2.ks.length kc, .slice ea (decR bs).2.es.length ec, .int .i64 (decR bs).2.next, .string (decR bs).2.data]) ∧ w'.ownsRow w.heap.size 161 2 (.slice ka (decR bs).2.ks.length kc) (decR bs).2.ks.length (rowsOf kidCells (decR bs).2.ks) ∧ w'.ownsRow w.heap.size 163 4 (.slice ea (decR bs).2.es.length ec) (decR bs).2.es.length (rowsOf entCells (decR bs).2.es) ∧ (∀ g, (Value.slice ka (decR bs).2.ks.length kc).ownBlock = some g → (Value.slice ea (decR bs).2.es.length ec).ownBlock = some g → False) ∧ Below w.heap.size w w' := by
  have hl := hb.1
  by_cases hn : n = 128
  · subst hn
    obtain ⟨g, o, rfl, _, _⟩ := hb.2.2.2.2.1 (by omega)
    refine (decode_any g o c bs w A B hB hb).mono ?_
    rintro e w' ⟨vk, ve, rfl, hO, hP, hor, hbel⟩
    by_cases hc : newCodeOf (decP bs) = bs
    · have hd : decR bs = (true, decP bs) := if_pos ⟨hl, hc⟩
      rw [hd]
      obtain ⟨ka, kc, rfl⟩ := own_shape hO
      obtain ⟨ea, ec, rfl⟩ := own_shape hP
      refine ⟨ka, kc, ea, ec, by rw [decide_eq_true hc]; rfl, hO, hP, ?_, hbel⟩
      intro g h1 h2
      rcases hor with e | e
      · rw [e] at h1; exact none_own _ _ _ h1
      · rw [e] at h2; exact none_own _ _ _ h2
    · have hd : decR bs = (false, zPg) := if_neg (fun h => hc h.2)
      rw [hd]
      exact ⟨none, 0, none, 0, by rw [decide_eq_false hc]; rfl, World.ownsRow_nil _ _ _ _, World.ownsRow_nil _ _ _ _, fun g h1 _ => none_own _ _ _ h1, hbel⟩
  · refine (decode_short a n c hn w).mono ?_
    rintro e w' ⟨rfl, hbel⟩
    have hd : decR bs = (false, zPg) := if_neg (fun h => hn (hl.symm.trans h.1))
    rw [hd]
    exact ⟨none, 0, none, 0, rfl, World.ownsRow_nil _ _ _ _, World.ownsRow_nil _ _ _ _, fun g h1 _ => none_own _ _ _ h1, hbel⟩
end New
end Go.Proofs.Ytpiipnfhinbimaa
