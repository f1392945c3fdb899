import Derived.Test.YtpiadgjkljdbcaaRows
import Derived.WalkKit
import Derived.ProofKit
import Derived.OpenShut
import Derived.Below
namespace Go.Proofs.Ytpiadgjkljdbcaa
namespace DiskNew
set_option linter.unusedVariables false
open Go.ChangeShapes Go.WideShapes Go.ChangeAt Go.RowKit

theorem bcell {W w1 : World} (hb : Below W.heap.size W w1) : (∀ b o, b < W.heap.size → w1.cell? ⟨b, o, none⟩ = W.cell? ⟨b, o, none⟩) ∧ (∀ b o, b < W.heap.size → w1.frozen? ⟨b, o, none⟩ = W.frozen? ⟨b, o, none⟩) :=
  ⟨fun b o h => hb.cell (p := ⟨b, o, none⟩) h, fun b o h => hb.frozen (p := ⟨b, o, none⟩) h⟩

theorem spec_new (c : Int) (w : World) (h1 : 0 ≤ c) (h2 : c ≤ 1000) :
    Calls Try.prog 18 #[.int .i64 c] w fun e w' => e = .returned (.agg #[.slice none 0 0, .slice none 0 0, .int .i64 c, .int .i64 (-1), .bool false]) ∧ Below w.heap.size w w' := by
  go_enter Try.func18, Try.ntmps18
  go_wp2
  exact bodyPost_ret (v := .agg #[.slice none 0 0, .slice none 0 0, .int .i64 c, .int .i64 (-1), .bool false]) (by simp [results, Try.results18, go_sem]) rfl ⟨rfl, by repeat (first | exact Below.refl _ _ | refine Below.alloc ?_ (by simp) _)⟩
theorem impl_new (c : Int) (w : World) (h1 : 0 ≤ c) (h2 : c ≤ 1000) :
    Calls Try.prog 19 #[.int .i64 c] w fun e w' => e = .returned (.agg #[.slice none 0 0, .slice none 0 0, .int .i64 c, .int .i64 (-1), .bool false]) ∧ Below w.heap.size w w' := by
  go_enter Try.func19, Try.ntmps19
  go_wp2
  exact bodyPost_ret (v := .agg #[.slice none 0 0, .slice none 0 0, .int .i64 c, .int .i64 (-1), .bool false]) (by simp [results, Try.results19, go_sem]) rfl ⟨rfl, by repeat (first | exact Below.refl _ _ | refine Below.alloc ?_ (by simp) _)⟩
theorem spec_new0 (c : Int) (w : World) (h : c < 0 ∨ 1000 < c) :
    Calls Try.prog 18 #[.int .i64 c] w fun e w' => e = .returned (.agg #[.slice none 0 0, .slice none 0 0, .int .i64 0, .int .i64 0, .bool false]) ∧ Below w.heap.size w w' := by
  rcases h with h | h
  · go_enter Try.func18, Try.ntmps18
    go_wp2
    exact bodyPost_ret (v := .agg #[.slice none 0 0, .slice none 0 0, .int .i64 0, .int .i64 0, .bool false]) (by simp [results, Try.results18, go_sem]) rfl ⟨rfl, by repeat (first | exact Below.refl _ _ | refine Below.alloc ?_ (by simp) _)⟩
  · have h' : ¬ c < 0 := by omega
    have hd : decide (c ≤ 1000) = false := by simp; omega
    go_enter Try.func18, Try.ntmps18
    go_wp2
    exact bodyPost_ret (v := .agg #[.slice none 0 0, .slice none 0 0, .int .i64 0, .int .i64 0, .bool false]) (by simp [results, Try.results18, go_sem]) rfl ⟨rfl, by repeat (first | exact Below.refl _ _ | refine Below.alloc ?_ (by simp) _)⟩
theorem impl_new0 (c : Int) (w : World) (h : c < 0 ∨ 1000 < c) :
    Calls Try.prog 19 #[.int .i64 c] w fun e w' => e = .returned (.agg #[.slice none 0 0, .slice none 0 0, .int .i64 0, .int .i64 0, .bool false]) ∧ Below w.heap.size w w' := by
  rcases h with h | h
  · go_enter Try.func19, Try.ntmps19
    go_wp2
    exact bodyPost_ret (v := .agg #[.slice none 0 0, .slice none 0 0, .int .i64 0, .int .i64 0, .bool false]) (by simp [results, Try.results19, go_sem]) rfl ⟨rfl, by repeat (first | exact Below.refl _ _ | refine Below.alloc ?_ (by simp) _)⟩
  · have h' : ¬ c < 0 := by omega
    go_enter Try.func19, Try.ntmps19
    go_wp2
    exact bodyPost_ret (v := .agg #[.slice none 0 0, .slice none 0 0, .int .i64 0, .int .i64 0, .bool false]) (by simp [results, Try.results19, go_sem]) rfl ⟨rfl, by repeat (first | exact Below.refl _ _ | refine Below.alloc ?_ (by simp) _)⟩

set_option maxHeartbeats 400000 in
theorem nil15 (w : World) : Calls Try.prog 42 #[.slice none 0 0, .slice none 0 0] w fun e w' => e = .returned (.bool true) ∧ w' = w := by
  go_enter Try.func42, Try.ntmps42
  go_wp2
  go_loop [5] (fun i => i = .int .i64 0) (fun _ => 0)
  case atStart => rfl
  case round =>
    subst hrel
    go_wp2
    go_ret
    exact ⟨rfl, rfl⟩
set_option maxHeartbeats 400000 in
theorem nil16 (w : World) : Calls Try.prog 43 #[.slice none 0 0, .slice none 0 0] w fun e w' => e = .returned (.bool true) ∧ w' = w := by
  go_enter Try.func43, Try.ntmps43
  go_wp2
  go_loop [5] (fun i => i = .int .i64 0) (fun _ => 0)
  case atStart => rfl
  case round =>
    subst hrel
    go_wp2
    go_ret
    exact ⟨rfl, rfl⟩
set_option maxHeartbeats 400000 in
theorem nil17 (k : Int) (w : World) : Calls Try.prog 44 #[.slice none 0 0, .int .i64 k] w fun e w' => e = .returned (.int .i64 k) ∧ w' = w := by
  go_enter Try.func44, Try.ntmps44
  go_wp2
  go_loop [1, 5] (fun k' i => k' = .int .i64 k ∧ i = .int .i64 0) (fun _ _ => 0)
  case atStart => exact ⟨rfl, rfl⟩
  case round =>
    obtain ⟨rfl, rfl⟩ := hrel
    go_wp2
    go_ret
    exact ⟨rfl, rfl⟩
set_option maxHeartbeats 400000 in
theorem nil18 (k : Int) (w : World) : Calls Try.prog 45 #[.slice none 0 0, .int .i64 k] w fun e w' => e = .returned (.int .i64 k) ∧ w' = w := by
  go_enter Try.func45, Try.ntmps45
  go_wp2
  go_loop [1, 5] (fun k' i => k' = .int .i64 k ∧ i = .int .i64 0) (fun _ _ => 0)
  case atStart => exact ⟨rfl, rfl⟩
  case round =>
    obtain ⟨rfl, rfl⟩ := hrel
    go_wp2
    go_ret
    exact ⟨rfl, rfl⟩
set_option maxHeartbeats 400000 in
theorem nil19 (k : Int) (w : World) : Calls Try.prog 46 #[.slice none 0 0, .int .i64 k] w fun e w' => e = .returned (.int .i64 k) ∧ w' = w := by
  go_enter Try.func46, Try.ntmps46
  go_wp2
  go_loop [1, 5] (fun k' i => k' = .int .i64 k ∧ i = .int .i64 0) (fun _ _ => 0)
  case atStart => exact ⟨rfl, rfl⟩
  case round =>
    obtain ⟨rfl, rfl⟩ := hrel
    go_wp2
    go_ret
    exact ⟨rfl, rfl⟩
set_option maxHeartbeats 400000 in
theorem nil20 (k : Int) (w : World) : Calls Try.prog 47 #[.slice none 0 0, .int .i64 k] w fun e w' => e = .returned (.int .i64 k) ∧ w' = w := by
  go_enter Try.func47, Try.ntmps47
  go_wp2
  go_loop [1, 5] (fun k' i => k' = .int .i64 k ∧ i = .int .i64 0) (fun _ _ => 0)
  case atStart => exact ⟨rfl, rfl⟩
  case round =>
    obtain ⟨rfl, rfl⟩ := hrel
    go_wp2
    go_ret
    exact ⟨rfl, rfl⟩
theorem eqs_new (c f : Int) (w : World) :
    Calls Try.prog 20 #[.agg #[.slice none 0 0, .slice none 0 0, .int .i64 c, .int .i64 f, .bool false], .agg #[.slice none 0 0, .slice none 0 0, .int .i64 c, .int .i64 f, .bool false]] w fun e w' => e = .returned (.bool true) ∧ Below w.heap.size w w' := by
  go_enter Try.func20, Try.ntmps20
  go_wp2_with (first | (go_at_call 42; refine (nil15 _).mono ?_; rintro e w1 ⟨rfl, rfl⟩) | (go_at_call 43; refine (nil16 _).mono ?_; rintro e w2 ⟨rfl, rfl⟩))
  go_ret
  exact ⟨rfl, by repeat (first | exact Below.refl _ _ | refine Below.alloc ?_ (by simp) _)⟩
theorem mark_new (c f k : Int) (w : World) :
    Calls Try.prog 21 #[.agg #[.slice none 0 0, .slice none 0 0, .int .i64 c, .int .i64 f, .bool false], .int .i64 k] w fun e w' => e = .returned (.int .i64 k) ∧ Below w.heap.size w w' := by
  go_enter Try.func21, Try.ntmps21
  go_wp2_with (first | (go_at_call 44; refine (nil17 _ _).mono ?_; rintro e w1 ⟨rfl, rfl⟩) | (go_at_call 45; refine (nil18 _ _).mono ?_; rintro e w2 ⟨rfl, rfl⟩))
  go_ret
  exact ⟨rfl, by repeat (first | exact Below.refl _ _ | refine Below.alloc ?_ (by simp) _)⟩
theorem held_new (c f k : Int) (h : 0 ≤ k) (w : World) :
    Calls Try.prog 22 #[.agg #[.slice none 0 0, .slice none 0 0, .int .i64 c, .int .i64 f, .bool false], .int .i64 k] w fun e w' => e = .returned (.int .i64 k) ∧ Below w.heap.size w w' := by
  go_enter Try.func22, Try.ntmps22
  go_wp2_with (first | (go_at_call 46; refine (nil19 _ _).mono ?_; rintro e w1 ⟨rfl, rfl⟩) | (go_at_call 47; refine (nil20 _ _).mono ?_; rintro e w2 ⟨rfl, rfl⟩))
  go_ret
  exact ⟨rfl, by repeat (first | exact Below.refl _ _ | refine Below.alloc ?_ (by simp) _)⟩
theorem own : ownKnob Try.prog.godebug = none := by kernel_rfl
/-! The walk -/
theorem walk (a0 : Int) (w0 : (Lit.int .i64 a0).wf = true) (w : World) :
    Calls Try.prog 5 #[.int .i64 a0] w fun e w' => e = .returned (.bool true) ∧ Below w.heap.size w w' := by
  by_cases h : 0 ≤ a0 ∧ a0 ≤ 1000
  · obtain ⟨h1, h2⟩ := h
    go_enter Try.func5, Try.ntmps5
    go_wp2_with fail
    refine (spec_new _ _ h1 h2).mono ?_
    rintro e v1 ⟨rfl, g1⟩
    obtain ⟨hc1, hf1⟩ := bcell g1
    have hz1 := g1.size
    try simp only [World.alloc_size] at hz1
    go_wp2_with fail
    refine (impl_new _ _ h1 h2).mono ?_
    rintro e v2 ⟨rfl, g2⟩
    obtain ⟨hc2, hf2⟩ := bcell g2
    have hz2 := g2.size
    try simp only [World.alloc_size] at hz2
    have y2 : v1.heap.size < v2.heap.size := by simp at hz2; omega
    go_wp2_with fail
    refine (eqs_new _ _ _).mono ?_
    rintro e v3 ⟨rfl, g3⟩
    obtain ⟨hc3, hf3⟩ := bcell g3
    have hz3 := g3.size
    try simp only [World.alloc_size] at hz3
    have y3 : v1.heap.size < v3.heap.size := by simp at hz3; omega
    have x3 : v2.heap.size < v3.heap.size := by simp at hz3; omega
    go_wp2_with fail
    refine (mark_new _ _ _ _).mono ?_
    rintro e v4 ⟨rfl, g4⟩
    obtain ⟨hc4, hf4⟩ := bcell g4
    have hz4 := g4.size
    try simp only [World.alloc_size] at hz4
    have y4 : v1.heap.size < v4.heap.size := by omega
    have x4 : v2.heap.size < v4.heap.size := by omega
    go_wp2_with fail
    refine (held_new _ _ _ (by decide) _).mono ?_
    rintro e v5 ⟨rfl, g5⟩
    obtain ⟨hc5, hf5⟩ := bcell g5
    have hz5 := g5.size
    try simp only [World.alloc_size] at hz5
    have y5 : v1.heap.size < v5.heap.size := by omega
    have x5 : v2.heap.size < v5.heap.size := by omega
    go_wp2_with fail
    refine (impl_new _ _ h1 h2).mono ?_
    rintro e v6 ⟨rfl, g6⟩
    obtain ⟨hc6, hf6⟩ := bcell g6
    have hz6 := g6.size
    try simp only [World.alloc_size] at hz6
    have y6 : v1.heap.size < v6.heap.size := by omega
    go_wp2_with fail
    refine (eqs_new _ _ _).mono ?_
    rintro e v7 ⟨rfl, g7⟩
    obtain ⟨hc7, hf7⟩ := bcell g7
    have hz7 := g7.size
    try simp only [World.alloc_size] at hz7
    go_wp2_with fail
    go_ret
    exact ⟨rfl, ((((((((g1.alloc (by omega) _).trans (g2.mono (by simp; omega))).alloc (by omega) _).trans (g3.mono (by simp; omega))).trans (g4.mono (by omega))).trans (g5.mono (by omega))).trans (g6.mono (by omega))).alloc (by omega) _).trans (g7.mono (by simp; omega))⟩
  · have h' : a0 < 0 ∨ 1000 < a0 := by omega
    clear h
    go_enter Try.func5, Try.ntmps5
    go_wp2_with fail
    refine (spec_new0 _ _ h').mono ?_
    rintro e v1 ⟨rfl, g1⟩
    obtain ⟨hc1, hf1⟩ := bcell g1
    have hz1 := g1.size
    try simp only [World.alloc_size] at hz1
    go_wp2_with fail
    refine (impl_new0 _ _ h').mono ?_
    rintro e v2 ⟨rfl, g2⟩
    obtain ⟨hc2, hf2⟩ := bcell g2
    have hz2 := g2.size
    try simp only [World.alloc_size] at hz2
    have y2 : v1.heap.size < v2.heap.size := by simp at hz2; omega
    go_wp2_with fail
    refine (eqs_new _ _ _).mono ?_
    rintro e v3 ⟨rfl, g3⟩
    obtain ⟨hc3, hf3⟩ := bcell g3
    have hz3 := g3.size
    try simp only [World.alloc_size] at hz3
    have y3 : v1.heap.size < v3.heap.size := by simp at hz3; omega
    have x3 : v2.heap.size < v3.heap.size := by simp at hz3; omega
    go_wp2_with fail
    refine (mark_new _ _ _ _).mono ?_
    rintro e v4 ⟨rfl, g4⟩
    obtain ⟨hc4, hf4⟩ := bcell g4
    have hz4 := g4.size
    try simp only [World.alloc_size] at hz4
    have y4 : v1.heap.size < v4.heap.size := by omega
    have x4 : v2.heap.size < v4.heap.size := by omega
    go_wp2_with fail
    refine (held_new _ _ _ (by decide) _).mono ?_
    rintro e v5 ⟨rfl, g5⟩
    obtain ⟨hc5, hf5⟩ := bcell g5
    have hz5 := g5.size
    try simp only [World.alloc_size] at hz5
    have y5 : v1.heap.size < v5.heap.size := by omega
    have x5 : v2.heap.size < v5.heap.size := by omega
    go_wp2_with fail
    refine (impl_new0 _ _ h').mono ?_
    rintro e v6 ⟨rfl, g6⟩
    obtain ⟨hc6, hf6⟩ := bcell g6
    have hz6 := g6.size
    try simp only [World.alloc_size] at hz6
    have y6 : v1.heap.size < v6.heap.size := by omega
    go_wp2_with fail
    refine (eqs_new _ _ _).mono ?_
    rintro e v7 ⟨rfl, g7⟩
    obtain ⟨hc7, hf7⟩ := bcell g7
    have hz7 := g7.size
    try simp only [World.alloc_size] at hz7
    go_wp2_with fail
    go_ret
    exact ⟨rfl, ((((((((g1.alloc (by omega) _).trans (g2.mono (by simp; omega))).alloc (by omega) _).trans (g3.mono (by simp; omega))).trans (g4.mono (by omega))).trans (g5.mono (by omega))).trans (g6.mono (by omega))).alloc (by omega) _).trans (g7.mono (by simp; omega))⟩

/-! The row's step -/
set_option maxRecDepth 100000 in
theorem lifted (os : Os) (started : os.Started) (H : Type) (enc : TypeId × Value → H) :
    ReturnsInHanded {} Try.checked os 5 .any (Rows.fnExactDiskNewSpec.pre6 enc Try.prog Try.f5 Rows.fnExactDiskNewRow.domain false) (Rows.fnExactDiskNewSpec.post enc Try.prog Try.f5 false true false false) := by
  refine returnsInHanded_of_change (C := Try.checked) own started (by kernel_rfl) Try.func5
    (ChangeSpec.witness6 (enc := enc) (C := Try.checked) false ⟨#[], #[.int .i64 0], []⟩ 8 (by kernel_rfl) (by kernel_rfl) (by kernel_rfl) (by kernel_rfl)) ?_
  intro W base args ds gs before hval0 hW hcnd _
  have hval : ∀ (j : Nat) t v, Try.f5.params[j]? = some t → args[j]? = some v → Value.okWide Try.prog W .any base t v := hval0
  have hW' := hW
  obtain ⟨p, q, hA0, hV, rfl, hfz, hnd⟩ := hW
  have hA : DataW.TrodAll enc Try.prog W 0 (fun _ => true) true Try.f5.params.toList args.toList ds p := hA0
  rw [Try.params5] at hA hval
  obtain ⟨v0, vs0, d0, ds0, p0, q0, hargs, rfl, rfl, h0, r0⟩ := trodAll_cons hA
  obtain ⟨rfl, rfl, rfl⟩ := trodAll_nil r0
  obtain rfl : args = #[v0] := by cases args; simp_all
  obtain ⟨rfl, rfl⟩ := trodVars_none hV
  obtain ⟨a0, rfl, rfl, rfl, w0⟩ := open_int Try.underlying2 (hval 0 2 v0 rfl rfl) h0
  clear hA0 hval0
  simp only [List.append_nil] at hW'
  refine (walk a0 w0 W).mono fun e W' ⟨he, hg⟩ => ?_
  subst he
  exact ⟨_, rfl, _, _, _, [], _, [], hW', trodAll_mk1 (shut_bool Try.underlying4 _), (trodAll_cons_mk (shut_int Try.underlying2 w0) trodAll_mk0), rfl, hg.frame _, fun h => by cases h⟩

theorem over : Rows.fnExactDiskNewRow.holds Try.pinned (OpenSpec.ofChange Rows.fnExactDiskNewSpec) :=
  OpenClaim.holds_of_wide 5 Try.f5 rfl rfl rfl rfl rfl rfl rfl ⟨rfl, rfl, rfl, rfl, rfl⟩ rfl rfl rfl rfl rfl (by kernel_rfl) Try.func5 (by kernel_rfl)
    (of_decide_eq_true (by kernel_rfl)) (by unfold Func.isWrapper; first | (rw [if_pos (by decide +kernel)]; kernel_rfl) | (rw [if_neg (by decide +kernel)]; exact ⟨rfl, rfl⟩))
    (fun os started H enc _ => lifted os started H enc)

end DiskNew
/-- The statement. -/
theorem diskNew_holds : Rows.FnExactDiskNewSaid := DiskNew.over
#print axioms diskNew_holds
end Go.Proofs.Ytpiadgjkljdbcaa
