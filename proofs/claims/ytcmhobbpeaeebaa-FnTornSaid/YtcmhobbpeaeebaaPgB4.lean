import Derived.Test.YtcmhobbpeaeebaaPgB3
namespace Go.Proofs.Ytcmhobbpeaeebaa
open Go.RowKit
set_option linter.unusedVariables false
set_option maxRecDepth 100000

def shortB (e : PE) : Bool := decide (e.2.2.1 = 0) && decide (e.2.2.2 = (e.2.1.size : Int)) && decide (e.2.1.size ≤ 8)
def longB (low last : Int) (e : PE) : Bool := inB low last e.2.2.1 && e.2.1.toList.isEmpty && inB 9 400 e.2.2.2
def entOk (low last : Int) (es : List PE) (i : Nat) : Bool := keyB (es.getD i dE).1 && (shortB (es.getD i dE) || longB low last (es.getD i dE)) && !(decide (0 < i) && geB (es.getD (i - 1) dE).1 (es.getD i dE).1)
def entsOk (low last : Int) (es : List PE) : Bool := (List.range es.length).all (entOk low last es)
def leafOk (low last : Int) (p : Pg) : Bool := noMeta p && decide (p.ks.length = 0) && decide (p.next = 0) && p.data.toList.isEmpty && decide (p.es.length ≤ 4) && entsOk low last p.es

set_option maxHeartbeats 1600000 in
theorem l2Body_leaf0 (tx id root count : Int) (ka : Option Addr) (n kc : Nat) (ea : Option Addr) (m ec : Nat) (next : Int) (data : ByteArray) (low last : Int) (w : World) (hn : n ≤ maxLen) (hm : m ≤ maxLen) (hd : data.size ≤ maxLen)
    (h : ¬ id = 0 ∨ ¬ root = 0 ∨ ¬ count = 0 ∨ ¬ n = 0 ∨ ¬ next = 0 ∨ ¬ data.toList = [] ∨ 4 < m) :
    Calls Try.prog 39 #[.agg #[.int .i64 3, .int .i64 tx, .int .i64 id, .int .i64 root, .int .i64 count, .slice ka n kc, .slice ea m ec, .int .i64 next, .string data], .int .i64 low, .int .i64 last] w fun e w' => e = .returned (.bool false) ∧ Below w.heap.size w w' := by
  unfold maxLen at hd hn hm
  refine meta_cases id root count ?_ ?_ ?_ ?_
  · rintro rfl rfl rfl
    by_cases h1 : n = 0
    · subst h1
      by_cases h2 : next = 0
      · subst h2
        by_cases h3 : data.toList = []
        · have h5 : 4 < m := by simp [h3] at h; omega
          go_enter Try.func39, Try.ntmps39
          go_wp2
          go_ret
          exact ⟨rfl, (Below.refl _ _).alloc (Nat.le_refl _) _⟩
        · go_enter Try.func39, Try.ntmps39
          go_wp2
          go_ret
          exact ⟨rfl, (Below.refl _ _).alloc (Nat.le_refl _) _⟩
      · have h2' : (next != 0) = true := by simpa using h2
        go_enter Try.func39, Try.ntmps39
        go_wp2
        go_ret
        exact ⟨rfl, (Below.refl _ _).alloc (Nat.le_refl _) _⟩
    · have h1' : (0 : Int) < n := by omega
      clear h1 h
      go_enter Try.func39, Try.ntmps39
      go_wp2
      go_ret
      exact ⟨rfl, (Below.refl _ _).alloc (Nat.le_refl _) _⟩
  all_goals
    intros
    clear h
    go_enter Try.func39, Try.ntmps39
    go_wp2
    go_ret
    exact ⟨rfl, (Below.refl _ _).alloc (Nat.le_refl _) _⟩
end Go.Proofs.Ytcmhobbpeaeebaa
