import Derived.Test.YtcmhobbpeaeebaaPgB
namespace Go.Proofs.Ytcmhobbpeaeebaa
open Go.RowKit
set_option linter.unusedVariables false
set_option maxRecDepth 100000

def kidOk (low last : Int) (ks : List PK) (i : Nat) : Bool := inB low last (ks.getD i dK).2 && !(decide (0 < i) && (!keyB (ks.getD i dK).1 || geB (ks.getD (i - 1) dK).1 (ks.getD i dK).1))
def kidsOk (low last : Int) (ks : List PK) : Bool := (List.range ks.length).all (kidOk low last ks)
def branchOk (low last : Int) (p : Pg) : Bool := noMeta p && decide (p.es.length = 0) && decide (p.next = 0) && p.data.toList.isEmpty && decide (2 ≤ p.ks.length) && decide (p.ks.length ≤ 4) && (p.ks.getD 0 dK).1.toList.isEmpty && kidsOk low last p.ks

/-- The meta of a page that is no meta page, case by case. -/
theorem meta_cases (id root count : Int) {P : Prop} (h0 : id = 0 → root = 0 → count = 0 → P) (h1 : ¬ id = 0 → P) (h2 : id = 0 → ¬ root = 0 → P) (h3 : id = 0 → root = 0 → ¬ count = 0 → P) : P := by
  by_cases a : id = 0
  · by_cases b : root = 0
    · by_cases c : count = 0
      · exact h0 a b c
      · exact h3 a b c
    · exact h2 a b
  · exact h1 a
set_option maxHeartbeats 1600000 in
theorem l2Body_branch0 (tx id root count : Int) (ka : Option Addr) (n kc : Nat) (ea : Option Addr) (m ec : Nat) (next : Int) (data : ByteArray) (low last : Int) (w : World) (hn : n ≤ maxLen) (hm : m ≤ maxLen) (hd : data.size ≤ maxLen)
    (h : ¬ id = 0 ∨ ¬ root = 0 ∨ ¬ count = 0 ∨ ¬ m = 0 ∨ ¬ next = 0 ∨ ¬ data.toList = [] ∨ n < 2 ∨ 4 < n) :
    Calls Try.prog 39 #[.agg #[.int .i64 2, .int .i64 tx, .int .i64 id, .int .i64 root, .int .i64 count, .slice ka n kc, .slice ea m ec, .int .i64 next, .string data], .int .i64 low, .int .i64 last] w fun e w' => e = .returned (.bool false) ∧ Below w.heap.size w w' := by
  unfold maxLen at hd hn hm
  refine meta_cases id root count ?_ ?_ ?_ ?_
  · rintro rfl rfl rfl
    by_cases h1 : m = 0
    · subst h1
      by_cases h2 : next = 0
      · subst h2
        by_cases h3 : data.toList = []
        · by_cases h4 : n < 2
          · go_enter Try.func39, Try.ntmps39
            go_wp2
            go_ret
            exact ⟨rfl, (Below.refl _ _).alloc (Nat.le_refl _) _⟩
          · have h5 : 4 < n := by simp [h3] at h; omega
            go_enter Try.func39, Try.ntmps39
            go_wp2
            go_ret
            exact ⟨rfl, (Below.refl _ _).alloc (Nat.le_refl _) _⟩
        · go_enter Try.func39, Try.ntmps39
          go_wp2
          go_ret
          exact ⟨rfl, (Below.refl _ _).alloc (Nat.le_refl _) _⟩
      · have h2' : (next != 0) = true := by simpa using h2
        go_enter Try.func39, Try.ntmps39
        go_wp2
        go_ret
        exact ⟨rfl, (Below.refl _ _).alloc (Nat.le_refl _) _⟩
    · have h1' : (0 : Int) < m := by omega
      clear h1 h
      go_enter Try.func39, Try.ntmps39
      go_wp2
      go_ret
      exact ⟨rfl, (Below.refl _ _).alloc (Nat.le_refl _) _⟩
  all_goals
    intros
    clear h
    go_enter Try.func39, Try.ntmps39
    go_wp2
    go_ret
    exact ⟨rfl, (Below.refl _ _).alloc (Nat.le_refl _) _⟩
end Go.Proofs.Ytcmhobbpeaeebaa
