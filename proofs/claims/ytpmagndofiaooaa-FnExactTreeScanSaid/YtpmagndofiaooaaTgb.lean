import Derived.Test.YtpmagndofiaooaaTga
import Derived.Test.YtpmagndofiaooaaTto
namespace Go.Proofs.Ytpmagndofiaooaa
open Go.RowKit
set_option linter.unusedVariables false
set_option linter.unusedSimpArgs false
set_option maxRecDepth 100000

/-- The grower: its nodes, how far it is, the numbers that it met. -/
structure GrAt (w : World) (G : Nat) (a : Option Addr) (n c : Nat) (nx : Nat) (met : Int → Bool) : Prop where
  box : ∃ cs : Array Value, w.heap[G]? = some (.cells cs 118) ∧ cs.size = 1002 ∧ cs[0]? = some (.slice a n c) ∧ cs[1]? = some (.int .i64 nx) ∧ ∀ k : Nat, k < 1000 → cs[2 + k]? = some (.bool (met k))
theorem GrAt.lt {w : World} {G : Nat} {a : Option Addr} {n c : Nat} {nx : Nat} {met : Int → Bool} (h : GrAt w G a n c nx met) : G < w.heap.size := by
  obtain ⟨cs, h, _⟩ := h.box
  exact (Array.getElem?_eq_some_iff.1 h).1
theorem GrAt.keep {w w' : World} {G : Nat} {a : Option Addr} {n c : Nat} {nx : Nat} {met : Int → Bool} (h : GrAt w G a n c nx met) (hk : w'.heap[G]? = w.heap[G]?) : GrAt w' G a n c nx met := by
  obtain ⟨cs, h, h1⟩ := h.box
  exact ⟨cs, hk.trans h, h1⟩
theorem GrAt.c0 {w : World} {G : Nat} {a : Option Addr} {n c : Nat} {nx : Nat} {met : Int → Bool} (h : GrAt w G a n c nx met) : w.cell? ⟨G, 0, none⟩ = some (.slice a n c) := by
  obtain ⟨cs, h, h0, h1, h2, h3⟩ := h.box
  simp [World.cell?, h, h1]
theorem GrAt.c1 {w : World} {G : Nat} {a : Option Addr} {n c : Nat} {nx : Nat} {met : Int → Bool} (h : GrAt w G a n c nx met) : w.cell? ⟨G, 1, none⟩ = some (.int .i64 nx) := by
  obtain ⟨cs, h, h0, h1, h2, h3⟩ := h.box
  simp [World.cell?, h, h2]
theorem GrAt.ck {w : World} {G : Nat} {a : Option Addr} {n c : Nat} {nx : Nat} {met : Int → Bool} (h : GrAt w G a n c nx met) {k : Nat} (hk : k < 1000) : w.cell? ⟨G, 2 + k, none⟩ = some (.bool (met k)) := by
  obtain ⟨cs, h, h0, h1, h2, h3⟩ := h.box
  simp [World.cell?, h, h3 k hk]
theorem GrAt.thaw {w : World} {G : Nat} {a : Option Addr} {n c : Nat} {nx : Nat} {met : Int → Bool} (h : GrAt w G a n c nx met) : ∀ o, w.frozen? ⟨G, o, none⟩ = false := by
  obtain ⟨cs, h, _⟩ := h.box
  exact thawT h
theorem GrAt.step {w : World} {G : Nat} {a : Option Addr} {n c : Nat} {nx : Nat} {met : Int → Bool} (h : GrAt w G a n c nx met) (m : Nat) : GrAt (w.setCell ⟨G, 1, none⟩ (.int .i64 m)) G a n c m met := by
  obtain ⟨cs, h, h0, h1, h2, h3⟩ := h.box
  refine ⟨cs.setIfInBounds 1 (.int .i64 m), heap_setT h 1 _, by simpa using h0, ?_, ?_, fun k hk => ?_⟩
  · rw [Array.getElem?_setIfInBounds_ne (by omega)]; exact h1
  · rw [Array.getElem?_setIfInBounds_self_of_lt (by omega)]
  · rw [Array.getElem?_setIfInBounds_ne (by omega)]; exact h3 k hk
theorem GrAt.mark {w : World} {G : Nat} {a : Option Addr} {n c : Nat} {nx : Nat} {met : Int → Bool} (h : GrAt w G a n c nx met) {x : Nat} (hx : x < 1000) : GrAt (w.setCell ⟨G, 2 + x, none⟩ (.bool true)) G a n c nx (fun y => met y || y == (x : Int)) := by
  obtain ⟨cs, h, h0, h1, h2, h3⟩ := h.box
  refine ⟨cs.setIfInBounds (2 + x) (.bool true), heap_setT h (2 + x) _, by simpa using h0, ?_, ?_, fun k hk => ?_⟩
  · rw [Array.getElem?_setIfInBounds_ne (by omega)]; exact h1
  · rw [Array.getElem?_setIfInBounds_ne (by omega)]; exact h2
  · by_cases hkx : x = k
    · subst hkx
      rw [Array.getElem?_setIfInBounds_self_of_lt (by omega)]
      simp
    · rw [Array.getElem?_setIfInBounds_ne (by omega), h3 k hk]
      have : ((k : Int) == (x : Int)) = false := by simp; omega
      simp [this]
theorem newPages_any (w : World) : Calls Try.prog 79 #[] w fun e w' => e = .returned (.agg #[.int .i64 2, .int .i64 999]) ∧ Below w.heap.size w w' := by
  go_enter Try.func79, Try.ntmps79
  go_wp2
  exact bodyPost_ret (v := .agg #[.int .i64 2, .int .i64 999]) (by simp [results, Try.results79, go_sem]) rfl ⟨rfl, (Below.refl _ _).alloc (Nat.le_refl _) _⟩
set_option maxHeartbeats 400000 in
theorem hasT_any (x : Int) (w : World) : Calls Try.prog 80 #[.agg #[.int .i64 2, .int .i64 999], .int .i64 x] w fun e w' => e = .returned (.bool (pgB x)) ∧ Below w.heap.size w w' := by
  have hb := (Below.refl w.heap.size w).alloc (Nat.le_refl _) (.cells #[.int .i64 2, .int .i64 999] 129)
  by_cases t1 : 2 ≤ x
  · by_cases t2 : x ≤ 999
    · have HE : Hid (pgB x = true) := by show _ = _; simp [pgB]; omega
      go_enter Try.func80, Try.ntmps80
      go_wp2
      go_ret
      exact ⟨by rw [HE.out]; rfl, hb⟩
    · have HE : Hid (pgB x = false) := by show _ = _; simp [pgB]; omega
      go_enter Try.func80, Try.ntmps80
      go_wp2
      go_ret
      exact ⟨by rw [HE.out]; rfl, hb⟩
  · have HE : Hid (pgB x = false) := by show _ = _; simp [pgB]; omega
    go_enter Try.func80, Try.ntmps80
    go_wp2
    go_ret
    exact ⟨by rw [HE.out]; rfl, hb⟩
/-- What meet answers. -/
def MeetAns (w : World) (G : Nat) (a : Option Addr) (n c nx : Nat) (met : Int → Bool) (x : Int) (e : Ending) (w' : World) : Prop :=
  ∃ r, e = .returned (.bool r) ∧ (r = true → ∃ m, meetB met x = some m ∧ GrAt w' G a n c nx m) ∧ (r = false → meetB met x = none) ∧ Fr (fun k => k = G) w w'
set_option maxHeartbeats 1000000 in
theorem meet_any (w : World) (G : Nat) (a : Option Addr) (n c nx : Nat) (met : Int → Bool) (x : Int) (h : GrAt w G a n c nx met) : Calls Try.prog 76 #[.pointer (some ⟨G, 0, none⟩), .int .i64 x] w fun e w' => MeetAns w G a n c nx met x e w' := by
  by_cases t0 : x = 0
  · subst t0
    have HA : Hid (MeetAns w G a n c nx met 0 (.returned (.bool true)) w) := ⟨true, rfl, fun _ => ⟨met, by simp [meetB], h⟩, (fun h => by cases h), Fr.refl _ _⟩
    clear h
    go_enter Try.func76, Try.ntmps76
    go_wp2
    go_ret
    exact HA.out
  · have sx : (x == 0) = false := by simpa using t0
    cases hp : pgB x
    · have HN : Hid (meetB met x = none) := by show _ = _; simp [meetB, t0, hp]
      have hh := hasT_any x
      rw [hp] at hh
      have HHH : Hid _ := hh
      clear hh hp h t0
      go_enter Try.func76, Try.ntmps76
      go_wp2_with fail
      refine (newPages_any w).mono ?_
      rintro e w1 ⟨rfl, hb1⟩
      go_wp2_with fail
      refine (HHH.out w1).mono ?_
      rintro e w2 ⟨rfl, hb2⟩
      have hb := hb1.trans (hb2.mono hb1.size)
      go_wp2_with fail
      go_ret
      exact ⟨false, rfl, (fun h => by cases h), fun _ => HN.out, Fr.of_below hb⟩
    · have hx2 : 2 ≤ x ∧ x ≤ 999 := by simpa [pgB] using hp
      have hh := hasT_any x
      rw [hp] at hh
      have HHH : Hid _ := hh
      clear hh
      obtain ⟨xn, rfl⟩ : ∃ xn : Nat, x = (xn : Int) := ⟨x.toNat, by omega⟩
      have hxn : xn < 1000 := by omega
      have HG : Hid (GrAt w G a n c nx met) := h
      have hGl := h.lt
      cases hm : met xn
      · have HN : Hid (meetB met xn = some (fun y => met y || y == (xn : Int))) := by show _ = _; simp only [meetB, if_neg t0, hp, hm]; rfl
        clear hp h t0
        go_enter Try.func76, Try.ntmps76
        go_wp2_with fail
        refine (newPages_any w).mono ?_
        rintro e w1 ⟨rfl, hb1⟩
        go_wp2_with fail
        refine (HHH.out w1).mono ?_
        rintro e w2 ⟨rfl, hb2⟩
        have hb := hb1.trans (hb2.mono hb1.size)
        have h2 : GrAt w2 G a n c nx met := HG.out.keep (hb.block G hGl)
        have ck := h2.ck hxn
        rw [hm] at ck
        have ff := h2.thaw
        have hl2 := h2.lt
        have h3 := h2.mark hxn
        have hfr := (Fr.of_below (S := fun k => k = G) hb).trans (fr_setT w2 G (2 + xn) (.bool true))
        clear h2 hb1 hb2
        go_wp2_with fail
        go_ret
        exact ⟨true, rfl, fun _ => ⟨_, HN.out, h3⟩, (fun h => by cases h), hfr⟩
      · have HN : Hid (meetB met xn = none) := by show _ = _; simp [meetB, hp, hm]; omega
        clear hp h t0
        go_enter Try.func76, Try.ntmps76
        go_wp2_with fail
        refine (newPages_any w).mono ?_
        rintro e w1 ⟨rfl, hb1⟩
        go_wp2_with fail
        refine (HHH.out w1).mono ?_
        rintro e w2 ⟨rfl, hb2⟩
        have hb := hb1.trans (hb2.mono hb1.size)
        have h2 : GrAt w2 G a n c nx met := HG.out.keep (hb.block G hGl)
        have ck := h2.ck hxn
        rw [hm] at ck
        have hl2 := h2.lt
        clear h2 hb1 hb2
        go_wp2_with fail
        go_ret
        exact ⟨false, rfl, (fun h => by cases h), fun _ => HN.out, Fr.of_below hb⟩
set_option maxHeartbeats 1000000 in
theorem mayStand_any (k v : ByteArray) (o p : Int) (hv : v.size ≤ maxLen) (w : World) : Calls Try.prog 81 #[.agg #[.string k, .string v, .int .i64 o], .int .i64 p] w fun e w' => e = .returned (.bool (mayB p v o)) ∧ Below w.heap.size w w' := by
  have hb := (Below.refl w.heap.size w).alloc (Nat.le_refl _) (.cells #[.string k, .string v, .int .i64 o] 86)
  unfold maxLen at hv
  by_cases t1 : v.size ≤ 8
  · have HE : Hid (mayB p v o = (o == 0)) := by show _ = _; simp [mayB, t1]
    go_enter Try.func81, Try.ntmps81
    go_wp2
    go_ret
    exact ⟨by rw [HE.out]; rfl, hb⟩
  · by_cases t2 : v.size ≤ 400
    · by_cases t3 : p = 0
      · subst t3
        have HE : Hid (mayB 0 v o = true) := by show _ = _; simp [mayB, t1, t2]
        go_enter Try.func81, Try.ntmps81
        go_wp2
        go_ret
        exact ⟨by rw [HE.out]; rfl, hb⟩
      · have s3 : (p == 0) = false := by simpa using t3
        have HE : Hid (mayB p v o = (o != 0)) := by show _ = _; simp [mayB, t1, t2, t3]
        clear t3
        go_enter Try.func81, Try.ntmps81
        go_wp2
        go_ret
        exact ⟨by rw [HE.out]; rfl, hb⟩
    · have HE : Hid (mayB p v o = false) := by show _ = _; simp [mayB, t1, t2]
      go_enter Try.func81, Try.ntmps81
      go_wp2
      go_ret
      exact ⟨by rw [HE.out]; rfl, hb⟩
end Go.Proofs.Ytpmagndofiaooaa
