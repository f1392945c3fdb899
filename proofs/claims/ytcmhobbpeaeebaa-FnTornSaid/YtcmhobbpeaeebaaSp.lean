import Derived.Test.YtcmhobbpeaeebaaSm
namespace Go.Proofs.Ytcmhobbpeaeebaa
open Go.RowKit
set_option linter.unusedVariables false
set_option maxRecDepth 100000

theorem equalK_nil (a : Option Addr) (n c : Nat) (ks : List PK) (w : World) (A B : Nat) (h : KidsAt w A B a n c ks) :
    Calls Try.prog 99 #[.slice none 0 0, .slice a n c] w fun e w' => e = .returned (.bool (decide (n = 0))) ∧ ∃ q, w' = w.drewN q := by
  by_cases h0 : n = 0
  · subst h0
    have hk : ks = [] := List.eq_nil_of_length_eq_zero h.1
    subst hk
    exact equalK_same none a 0 0 c [] w 0 0 A B ⟨rfl, Nat.le_refl _, Nat.zero_le _, fun i hi => absurd hi (Nat.not_lt_zero _), fun hi => absurd hi (Nat.lt_irrefl _)⟩ h
  · refine (equalK_len none a 0 0 n c (fun e => h0 e.symm) w).mono ?_
    rintro e w' ⟨rfl, rfl⟩
    exact ⟨by simp [h0], 0, rfl⟩
theorem equalE_nil (a : Option Addr) (n c : Nat) (ks : List PE) (w : World) (A B : Nat) (h : EntsAt w A B a n c ks) :
    Calls Try.prog 100 #[.slice none 0 0, .slice a n c] w fun e w' => e = .returned (.bool (decide (n = 0))) ∧ ∃ q, w' = w.drewN q := by
  by_cases h0 : n = 0
  · subst h0
    have hk : ks = [] := List.eq_nil_of_length_eq_zero h.1
    subst hk
    exact equalE_same none a 0 0 c [] w 0 0 A B ⟨rfl, Nat.le_refl _, Nat.zero_le _, fun i hi => absurd hi (Nat.not_lt_zero _), fun hi => absurd hi (Nat.lt_irrefl _)⟩ h
  · refine (equalE_len none a 0 0 n c (fun e => h0 e.symm) w).mono ?_
    rintro e w' ⟨rfl, rfl⟩
    exact ⟨by simp [h0], 0, rfl⟩
theorem below_two (w : World) (a b : Obj) : Below w.heap.size w ((w.alloc a).alloc b) := ((Below.refl _ _).alloc (Nat.le_refl _) _).alloc (by simp) _
theorem below_two_dn (w : World) (a b : Obj) (q : Nat) : Below w.heap.size w (((w.alloc a).alloc b).drewN q) := (below_two w a b).trans ⟨rfl, rfl, rfl, Nat.le_refl _, fun _ _ => rfl⟩
set_option maxHeartbeats 3200000 in
theorem same_meta (tx id root count : Int) (ka : Option Addr) (n kc : Nat) (ks : List PK) (ea : Option Addr) (m ec : Nat) (es : List PE) (next : Int) (data : ByteArray) (w : World) (A B : Nat) (hB : B ≤ w.heap.size) (hK : KidsAt w A B ka n kc ks) (hE : EntsAt w A B ea m ec es) :
    Calls Try.prog 93 #[.agg #[.int .i64 1, .int .i64 tx, .int .i64 id, .int .i64 root, .int .i64 count, .slice none 0 0, .slice none 0 0, .int .i64 0, .string ByteArray.empty], .agg #[.int .i64 1, .int .i64 tx, .int .i64 id, .int .i64 root, .int .i64 count, .slice ka n kc, .slice ea m ec, .int .i64 next, .string data]] w fun e w' => e = .returned (.bool (decide (n = 0) && decide (m = 0) && decide (next = 0) && data.toList.isEmpty)) ∧ Below w.heap.size w w' := by
  by_cases h_n : n = 0
  · subst h_n
    by_cases h_m : m = 0
    · subst h_m
      by_cases h_next : next = 0
      · subst h_next
        go_enter Try.func93, Try.ntmps93
        go_wp2_with (first | (go_at_call 99; refine (equalK_nil _ _ kc ks _ A B (hK.below ((below_two w _ _).mono hB))).mono ?_; rintro e w1 ⟨rfl, q1, rfl⟩) | (go_at_call 100; refine (equalE_nil _ _ ec es _ A B (hE.below ((below_two_dn w _ _ q1).mono hB))).mono ?_; rintro e w2 ⟨rfl, q2, rfl⟩))
        go_ret
        refine ⟨?_, by first | exact below_two _ _ _ | exact below_two_dn _ _ _ _ | (rw [World.drewN_drewN]; exact below_two_dn _ _ _ _)⟩
        first | (simp [*]; done) | rfl
      · have hx1 : ¬ 0 = next := fun e => h_next e.symm
        go_enter Try.func93, Try.ntmps93
        go_wp2_with (first | (go_at_call 99; refine (equalK_nil _ _ kc ks _ A B (hK.below ((below_two w _ _).mono hB))).mono ?_; rintro e w1 ⟨rfl, q1, rfl⟩) | (go_at_call 100; refine (equalE_nil _ _ ec es _ A B (hE.below ((below_two_dn w _ _ q1).mono hB))).mono ?_; rintro e w2 ⟨rfl, q2, rfl⟩))
        go_ret
        refine ⟨?_, by first | exact below_two _ _ _ | exact below_two_dn _ _ _ _ | (rw [World.drewN_drewN]; exact below_two_dn _ _ _ _)⟩
        first | (simp [*]; done) | rfl
    · go_enter Try.func93, Try.ntmps93
      go_wp2_with (first | (go_at_call 99; refine (equalK_nil _ _ kc ks _ A B (hK.below ((below_two w _ _).mono hB))).mono ?_; rintro e w1 ⟨rfl, q1, rfl⟩) | (go_at_call 100; refine (equalE_nil _ _ ec es _ A B (hE.below ((below_two_dn w _ _ q1).mono hB))).mono ?_; rintro e w2 ⟨rfl, q2, rfl⟩))
      go_ret
      refine ⟨?_, by first | exact below_two _ _ _ | exact below_two_dn _ _ _ _ | (rw [World.drewN_drewN]; exact below_two_dn _ _ _ _)⟩
      first | (simp [*]; done) | rfl
  · go_enter Try.func93, Try.ntmps93
    go_wp2_with (first | (go_at_call 99; refine (equalK_nil _ _ kc ks _ A B (hK.below ((below_two w _ _).mono hB))).mono ?_; rintro e w1 ⟨rfl, q1, rfl⟩) | (go_at_call 100; refine (equalE_nil _ _ ec es _ A B (hE.below ((below_two_dn w _ _ q1).mono hB))).mono ?_; rintro e w2 ⟨rfl, q2, rfl⟩))
    go_ret
    refine ⟨?_, by first | exact below_two _ _ _ | exact below_two_dn _ _ _ _ | (rw [World.drewN_drewN]; exact below_two_dn _ _ _ _)⟩
    first | (simp [*]; done) | rfl
set_option maxHeartbeats 3200000 in
theorem same_branch (tx id root count : Int) (ka : Option Addr) (n kc : Nat) (ks : List PK) (ea : Option Addr) (m ec : Nat) (es : List PE) (next : Int) (data : ByteArray) (w : World) (A B : Nat) (hB : B ≤ w.heap.size) (hK : KidsAt w A B ka n kc ks) (hE : EntsAt w A B ea m ec es) :
    Calls Try.prog 93 #[.agg #[.int .i64 2, .int .i64 tx, .int .i64 0, .int .i64 0, .int .i64 0, .slice ka n kc, .slice none 0 0, .int .i64 0, .string ByteArray.empty], .agg #[.int .i64 2, .int .i64 tx, .int .i64 id, .int .i64 root, .int .i64 count, .slice ka n kc, .slice ea m ec, .int .i64 next, .string data]] w fun e w' => e = .returned (.bool (decide (id = 0 ∧ root = 0 ∧ count = 0) && decide (m = 0) && decide (next = 0) && data.toList.isEmpty)) ∧ Below w.heap.size w w' := by
  refine meta_cases id root count ?_ ?_ ?_ ?_
  · rintro rfl rfl rfl
    by_cases h_m : m = 0
    · subst h_m
      by_cases h_next : next = 0
      · subst h_next
        go_enter Try.func93, Try.ntmps93
        go_wp2_with (first | (go_at_call 99; refine (equalK_same _ _ _ kc kc ks _ A B A B (hK.below ((below_two w _ _).mono hB)) (hK.below ((below_two w _ _).mono hB))).mono ?_; rintro e w1 ⟨rfl, q1, rfl⟩) | (go_at_call 100; refine (equalE_nil _ _ ec es _ A B (hE.below ((below_two_dn w _ _ q1).mono hB))).mono ?_; rintro e w2 ⟨rfl, q2, rfl⟩))
        go_ret
        refine ⟨?_, by first | exact below_two _ _ _ | exact below_two_dn _ _ _ _ | (rw [World.drewN_drewN]; exact below_two_dn _ _ _ _)⟩
        first | (simp [*]; done) | rfl
      · have hx1 : ¬ 0 = next := fun e => h_next e.symm
        go_enter Try.func93, Try.ntmps93
        go_wp2_with (first | (go_at_call 99; refine (equalK_same _ _ _ kc kc ks _ A B A B (hK.below ((below_two w _ _).mono hB)) (hK.below ((below_two w _ _).mono hB))).mono ?_; rintro e w1 ⟨rfl, q1, rfl⟩) | (go_at_call 100; refine (equalE_nil _ _ ec es _ A B (hE.below ((below_two_dn w _ _ q1).mono hB))).mono ?_; rintro e w2 ⟨rfl, q2, rfl⟩))
        go_ret
        refine ⟨?_, by first | exact below_two _ _ _ | exact below_two_dn _ _ _ _ | (rw [World.drewN_drewN]; exact below_two_dn _ _ _ _)⟩
        first | (simp [*]; done) | rfl
    · go_enter Try.func93, Try.ntmps93
      go_wp2_with (first | (go_at_call 99; refine (equalK_same _ _ _ kc kc ks _ A B A B (hK.below ((below_two w _ _).mono hB)) (hK.below ((below_two w _ _).mono hB))).mono ?_; rintro e w1 ⟨rfl, q1, rfl⟩) | (go_at_call 100; refine (equalE_nil _ _ ec es _ A B (hE.below ((below_two_dn w _ _ q1).mono hB))).mono ?_; rintro e w2 ⟨rfl, q2, rfl⟩))
      go_ret
      refine ⟨?_, by first | exact below_two _ _ _ | exact below_two_dn _ _ _ _ | (rw [World.drewN_drewN]; exact below_two_dn _ _ _ _)⟩
      first | (simp [*]; done) | rfl
  · intro h1
    have h1' : ¬ 0 = id := fun e => h1 e.symm
    go_enter Try.func93, Try.ntmps93
    go_wp2_with (first | (go_at_call 99; refine (equalK_same _ _ _ kc kc ks _ A B A B (hK.below ((below_two w _ _).mono hB)) (hK.below ((below_two w _ _).mono hB))).mono ?_; rintro e w1 ⟨rfl, q1, rfl⟩) | (go_at_call 100; refine (equalE_nil _ _ ec es _ A B (hE.below ((below_two_dn w _ _ q1).mono hB))).mono ?_; rintro e w2 ⟨rfl, q2, rfl⟩))
    go_ret
    refine ⟨?_, by first | exact below_two _ _ _ | exact below_two_dn _ _ _ _ | (rw [World.drewN_drewN]; exact below_two_dn _ _ _ _)⟩
    first | (simp [*]; done) | rfl
  · intro h0 h1
    subst h0
    have h1' : ¬ 0 = root := fun e => h1 e.symm
    go_enter Try.func93, Try.ntmps93
    go_wp2_with (first | (go_at_call 99; refine (equalK_same _ _ _ kc kc ks _ A B A B (hK.below ((below_two w _ _).mono hB)) (hK.below ((below_two w _ _).mono hB))).mono ?_; rintro e w1 ⟨rfl, q1, rfl⟩) | (go_at_call 100; refine (equalE_nil _ _ ec es _ A B (hE.below ((below_two_dn w _ _ q1).mono hB))).mono ?_; rintro e w2 ⟨rfl, q2, rfl⟩))
    go_ret
    refine ⟨?_, by first | exact below_two _ _ _ | exact below_two_dn _ _ _ _ | (rw [World.drewN_drewN]; exact below_two_dn _ _ _ _)⟩
    first | (simp [*]; done) | rfl
  · intro h0 h2 h1
    subst h0 h2
    have h1' : ¬ 0 = count := fun e => h1 e.symm
    go_enter Try.func93, Try.ntmps93
    go_wp2_with (first | (go_at_call 99; refine (equalK_same _ _ _ kc kc ks _ A B A B (hK.below ((below_two w _ _).mono hB)) (hK.below ((below_two w _ _).mono hB))).mono ?_; rintro e w1 ⟨rfl, q1, rfl⟩) | (go_at_call 100; refine (equalE_nil _ _ ec es _ A B (hE.below ((below_two_dn w _ _ q1).mono hB))).mono ?_; rintro e w2 ⟨rfl, q2, rfl⟩))
    go_ret
    refine ⟨?_, by first | exact below_two _ _ _ | exact below_two_dn _ _ _ _ | (rw [World.drewN_drewN]; exact below_two_dn _ _ _ _)⟩
    first | (simp [*]; done) | rfl
set_option maxHeartbeats 3200000 in
theorem same_leaf (tx id root count : Int) (ka : Option Addr) (n kc : Nat) (ks : List PK) (ea : Option Addr) (m ec : Nat) (es : List PE) (next : Int) (data : ByteArray) (w : World) (A B : Nat) (hB : B ≤ w.heap.size) (hK : KidsAt w A B ka n kc ks) (hE : EntsAt w A B ea m ec es) :
    Calls Try.prog 93 #[.agg #[.int .i64 3, .int .i64 tx, .int .i64 0, .int .i64 0, .int .i64 0, .slice none 0 0, .slice ea m ec, .int .i64 0, .string ByteArray.empty], .agg #[.int .i64 3, .int .i64 tx, .int .i64 id, .int .i64 root, .int .i64 count, .slice ka n kc, .slice ea m ec, .int .i64 next, .string data]] w fun e w' => e = .returned (.bool (decide (id = 0 ∧ root = 0 ∧ count = 0) && decide (n = 0) && decide (next = 0) && data.toList.isEmpty)) ∧ Below w.heap.size w w' := by
  refine meta_cases id root count ?_ ?_ ?_ ?_
  · rintro rfl rfl rfl
    by_cases h_n : n = 0
    · subst h_n
      by_cases h_next : next = 0
      · subst h_next
        go_enter Try.func93, Try.ntmps93
        go_wp2_with (first | (go_at_call 99; refine (equalK_nil _ _ kc ks _ A B (hK.below ((below_two w _ _).mono hB))).mono ?_; rintro e w1 ⟨rfl, q1, rfl⟩) | (go_at_call 100; refine (equalE_same _ _ _ ec ec es _ A B A B (hE.below ((below_two_dn w _ _ q1).mono hB)) (hE.below ((below_two_dn w _ _ q1).mono hB))).mono ?_; rintro e w2 ⟨rfl, q2, rfl⟩))
        go_ret
        refine ⟨?_, by first | exact below_two _ _ _ | exact below_two_dn _ _ _ _ | (rw [World.drewN_drewN]; exact below_two_dn _ _ _ _)⟩
        first | (simp [*]; done) | rfl
      · have hx1 : ¬ 0 = next := fun e => h_next e.symm
        go_enter Try.func93, Try.ntmps93
        go_wp2_with (first | (go_at_call 99; refine (equalK_nil _ _ kc ks _ A B (hK.below ((below_two w _ _).mono hB))).mono ?_; rintro e w1 ⟨rfl, q1, rfl⟩) | (go_at_call 100; refine (equalE_same _ _ _ ec ec es _ A B A B (hE.below ((below_two_dn w _ _ q1).mono hB)) (hE.below ((below_two_dn w _ _ q1).mono hB))).mono ?_; rintro e w2 ⟨rfl, q2, rfl⟩))
        go_ret
        refine ⟨?_, by first | exact below_two _ _ _ | exact below_two_dn _ _ _ _ | (rw [World.drewN_drewN]; exact below_two_dn _ _ _ _)⟩
        first | (simp [*]; done) | rfl
    · go_enter Try.func93, Try.ntmps93
      go_wp2_with (first | (go_at_call 99; refine (equalK_nil _ _ kc ks _ A B (hK.below ((below_two w _ _).mono hB))).mono ?_; rintro e w1 ⟨rfl, q1, rfl⟩) | (go_at_call 100; refine (equalE_same _ _ _ ec ec es _ A B A B (hE.below ((below_two_dn w _ _ q1).mono hB)) (hE.below ((below_two_dn w _ _ q1).mono hB))).mono ?_; rintro e w2 ⟨rfl, q2, rfl⟩))
      go_ret
      refine ⟨?_, by first | exact below_two _ _ _ | exact below_two_dn _ _ _ _ | (rw [World.drewN_drewN]; exact below_two_dn _ _ _ _)⟩
      first | (simp [*]; done) | rfl
  · intro h1
    have h1' : ¬ 0 = id := fun e => h1 e.symm
    go_enter Try.func93, Try.ntmps93
    go_wp2_with (first | (go_at_call 99; refine (equalK_nil _ _ kc ks _ A B (hK.below ((below_two w _ _).mono hB))).mono ?_; rintro e w1 ⟨rfl, q1, rfl⟩) | (go_at_call 100; refine (equalE_same _ _ _ ec ec es _ A B A B (hE.below ((below_two_dn w _ _ q1).mono hB)) (hE.below ((below_two_dn w _ _ q1).mono hB))).mono ?_; rintro e w2 ⟨rfl, q2, rfl⟩))
    go_ret
    refine ⟨?_, by first | exact below_two _ _ _ | exact below_two_dn _ _ _ _ | (rw [World.drewN_drewN]; exact below_two_dn _ _ _ _)⟩
    first | (simp [*]; done) | rfl
  · intro h0 h1
    subst h0
    have h1' : ¬ 0 = root := fun e => h1 e.symm
    go_enter Try.func93, Try.ntmps93
    go_wp2_with (first | (go_at_call 99; refine (equalK_nil _ _ kc ks _ A B (hK.below ((below_two w _ _).mono hB))).mono ?_; rintro e w1 ⟨rfl, q1, rfl⟩) | (go_at_call 100; refine (equalE_same _ _ _ ec ec es _ A B A B (hE.below ((below_two_dn w _ _ q1).mono hB)) (hE.below ((below_two_dn w _ _ q1).mono hB))).mono ?_; rintro e w2 ⟨rfl, q2, rfl⟩))
    go_ret
    refine ⟨?_, by first | exact below_two _ _ _ | exact below_two_dn _ _ _ _ | (rw [World.drewN_drewN]; exact below_two_dn _ _ _ _)⟩
    first | (simp [*]; done) | rfl
  · intro h0 h2 h1
    subst h0 h2
    have h1' : ¬ 0 = count := fun e => h1 e.symm
    go_enter Try.func93, Try.ntmps93
    go_wp2_with (first | (go_at_call 99; refine (equalK_nil _ _ kc ks _ A B (hK.below ((below_two w _ _).mono hB))).mono ?_; rintro e w1 ⟨rfl, q1, rfl⟩) | (go_at_call 100; refine (equalE_same _ _ _ ec ec es _ A B A B (hE.below ((below_two_dn w _ _ q1).mono hB)) (hE.below ((below_two_dn w _ _ q1).mono hB))).mono ?_; rintro e w2 ⟨rfl, q2, rfl⟩))
    go_ret
    refine ⟨?_, by first | exact below_two _ _ _ | exact below_two_dn _ _ _ _ | (rw [World.drewN_drewN]; exact below_two_dn _ _ _ _)⟩
    first | (simp [*]; done) | rfl
set_option maxHeartbeats 3200000 in
theorem same_over (tx id root count : Int) (ka : Option Addr) (n kc : Nat) (ks : List PK) (ea : Option Addr) (m ec : Nat) (es : List PE) (next : Int) (data : ByteArray) (w : World) (A B : Nat) (hB : B ≤ w.heap.size) (hK : KidsAt w A B ka n kc ks) (hE : EntsAt w A B ea m ec es) :
    Calls Try.prog 93 #[.agg #[.int .i64 4, .int .i64 tx, .int .i64 0, .int .i64 0, .int .i64 0, .slice none 0 0, .slice none 0 0, .int .i64 next, .string data], .agg #[.int .i64 4, .int .i64 tx, .int .i64 id, .int .i64 root, .int .i64 count, .slice ka n kc, .slice ea m ec, .int .i64 next, .string data]] w fun e w' => e = .returned (.bool (decide (id = 0 ∧ root = 0 ∧ count = 0) && decide (n = 0) && decide (m = 0))) ∧ Below w.heap.size w w' := by
  refine meta_cases id root count ?_ ?_ ?_ ?_
  · rintro rfl rfl rfl
    by_cases h_n : n = 0
    · subst h_n
      by_cases h_m : m = 0
      · subst h_m
        go_enter Try.func93, Try.ntmps93
        go_wp2_with (first | (go_at_call 99; refine (equalK_nil _ _ kc ks _ A B (hK.below ((below_two w _ _).mono hB))).mono ?_; rintro e w1 ⟨rfl, q1, rfl⟩) | (go_at_call 100; refine (equalE_nil _ _ ec es _ A B (hE.below ((below_two_dn w _ _ q1).mono hB))).mono ?_; rintro e w2 ⟨rfl, q2, rfl⟩))
        go_ret
        refine ⟨?_, by first | exact below_two _ _ _ | exact below_two_dn _ _ _ _ | (rw [World.drewN_drewN]; exact below_two_dn _ _ _ _)⟩
        first | (simp [*]; done) | rfl
      · go_enter Try.func93, Try.ntmps93
        go_wp2_with (first | (go_at_call 99; refine (equalK_nil _ _ kc ks _ A B (hK.below ((below_two w _ _).mono hB))).mono ?_; rintro e w1 ⟨rfl, q1, rfl⟩) | (go_at_call 100; refine (equalE_nil _ _ ec es _ A B (hE.below ((below_two_dn w _ _ q1).mono hB))).mono ?_; rintro e w2 ⟨rfl, q2, rfl⟩))
        go_ret
        refine ⟨?_, by first | exact below_two _ _ _ | exact below_two_dn _ _ _ _ | (rw [World.drewN_drewN]; exact below_two_dn _ _ _ _)⟩
        first | (simp [*]; done) | rfl
    · go_enter Try.func93, Try.ntmps93
      go_wp2_with (first | (go_at_call 99; refine (equalK_nil _ _ kc ks _ A B (hK.below ((below_two w _ _).mono hB))).mono ?_; rintro e w1 ⟨rfl, q1, rfl⟩) | (go_at_call 100; refine (equalE_nil _ _ ec es _ A B (hE.below ((below_two_dn w _ _ q1).mono hB))).mono ?_; rintro e w2 ⟨rfl, q2, rfl⟩))
      go_ret
      refine ⟨?_, by first | exact below_two _ _ _ | exact below_two_dn _ _ _ _ | (rw [World.drewN_drewN]; exact below_two_dn _ _ _ _)⟩
      first | (simp [*]; done) | rfl
  · intro h1
    have h1' : ¬ 0 = id := fun e => h1 e.symm
    go_enter Try.func93, Try.ntmps93
    go_wp2_with (first | (go_at_call 99; refine (equalK_nil _ _ kc ks _ A B (hK.below ((below_two w _ _).mono hB))).mono ?_; rintro e w1 ⟨rfl, q1, rfl⟩) | (go_at_call 100; refine (equalE_nil _ _ ec es _ A B (hE.below ((below_two_dn w _ _ q1).mono hB))).mono ?_; rintro e w2 ⟨rfl, q2, rfl⟩))
    go_ret
    refine ⟨?_, by first | exact below_two _ _ _ | exact below_two_dn _ _ _ _ | (rw [World.drewN_drewN]; exact below_two_dn _ _ _ _)⟩
    first | (simp [*]; done) | rfl
  · intro h0 h1
    subst h0
    have h1' : ¬ 0 = root := fun e => h1 e.symm
    go_enter Try.func93, Try.ntmps93
    go_wp2_with (first | (go_at_call 99; refine (equalK_nil _ _ kc ks _ A B (hK.below ((below_two w _ _).mono hB))).mono ?_; rintro e w1 ⟨rfl, q1, rfl⟩) | (go_at_call 100; refine (equalE_nil _ _ ec es _ A B (hE.below ((below_two_dn w _ _ q1).mono hB))).mono ?_; rintro e w2 ⟨rfl, q2, rfl⟩))
    go_ret
    refine ⟨?_, by first | exact below_two _ _ _ | exact below_two_dn _ _ _ _ | (rw [World.drewN_drewN]; exact below_two_dn _ _ _ _)⟩
    first | (simp [*]; done) | rfl
  · intro h0 h2 h1
    subst h0 h2
    have h1' : ¬ 0 = count := fun e => h1 e.symm
    go_enter Try.func93, Try.ntmps93
    go_wp2_with (first | (go_at_call 99; refine (equalK_nil _ _ kc ks _ A B (hK.below ((below_two w _ _).mono hB))).mono ?_; rintro e w1 ⟨rfl, q1, rfl⟩) | (go_at_call 100; refine (equalE_nil _ _ ec es _ A B (hE.below ((below_two_dn w _ _ q1).mono hB))).mono ?_; rintro e w2 ⟨rfl, q2, rfl⟩))
    go_ret
    refine ⟨?_, by first | exact below_two _ _ _ | exact below_two_dn _ _ _ _ | (rw [World.drewN_drewN]; exact below_two_dn _ _ _ _)⟩
    first | (simp [*]; done) | rfl
end Go.Proofs.Ytcmhobbpeaeebaa
