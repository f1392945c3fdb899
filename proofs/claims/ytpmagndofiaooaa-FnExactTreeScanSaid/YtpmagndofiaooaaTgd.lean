import Derived.Test.YtpmagndofiaooaaTgc
namespace Go.Proofs.Ytpmagndofiaooaa
open Go.RowKit
set_option linter.unusedVariables false
set_option linter.unusedSimpArgs false
set_option maxRecDepth 100000

def firstB (acc : List T) (h : Int) : Bool := match acc with | [] => true | a :: _ => a.ht == h
theorem holdB_eq (p : Int) (acc : List T) (t : T) : holdB p acc t = (decide (2 ≤ t.size) && !(p != 0 && t.page == 0) && firstB acc t.ht) := by cases acc <;> rfl
set_option maxHeartbeats 2000000 in
theorem mayHold_any (w : World) (I : Nat) (p : Int) (ka : Option Addr) (kn kc : Nat) (ty : TypeId) (v : Value) (t : T) (acc : List T) (hbox : w.heap[I]? = some (.cells #[.int .i64 p, .slice ka kn kc] 101)) (hlen : acc.length = kn) (hkn : kn ≤ 4) (hts : t.size ≤ 1000000) (hO : GObj w t ty v)
    (hfirst : ∀ q r, acc = q :: r → ∃ b ty0 v0, ka = some ⟨b, 0, none⟩ ∧ w.cell? ⟨b, 0, none⟩ = some (.iface ty0 v0) ∧ Obs w ty0 v0 "loop.example/s02098/impl.height" (.int .i64 q.ht)) :
    Calls Try.prog 82 #[.pointer (some ⟨I, 0, none⟩), .iface ty v] w fun e w' => e = .returned (.bool (holdB p acc t)) ∧ w' = w := by
  obtain ⟨⟨ha1, f1, r1, hm1, hc1, hs⟩, ⟨ha2, f2, r2, hm2, hc2, hw⟩, ⟨ha3, f3, r3, hm3, hc3, hh⟩, _⟩ := hO
  obtain ⟨c0, c1⟩ := box_twoG hbox
  have hlt : I < w.heap.size := (Array.getElem?_eq_some_iff.1 hbox).1
  have HS : Hid (Calls Try.prog f1 #[r1] w fun e w' => e = .returned (.int .i64 t.size) ∧ w' = w) := hs
  have HW : Hid (Calls Try.prog f2 #[r2] w fun e w' => e = .returned (.int .i64 t.page) ∧ w' = w) := hw
  have HH : Hid (Calls Try.prog f3 #[r3] w fun e w' => e = .returned (.int .i64 t.ht) ∧ w' = w) := hh
  have HB : Hid (holdB p acc t = (decide (2 ≤ t.size) && !(p != 0 && t.page == 0) && firstB acc t.ht)) := holdB_eq p acc t
  obtain ⟨ans, hans⟩ : ∃ ans, holdB p acc t = ans := ⟨_, rfl⟩
  rw [hans] at HB ⊢
  clear hs hw hh hbox hans
  obtain ⟨sz, hsz⟩ : ∃ sz, t.size = sz := ⟨_, rfl⟩
  obtain ⟨pg, hpg⟩ : ∃ pg, t.page = pg := ⟨_, rfl⟩
  obtain ⟨ht, hht⟩ : ∃ ht, t.ht = ht := ⟨_, rfl⟩
  rw [hsz] at HS HB hts
  rw [hpg] at HW HB
  rw [hht] at HH HB
  clear hsz hpg hht
  go_enter Try.func82, Try.ntmps82
  go_wp2_with fail
  refine HS.out.mono ?_
  rintro e w' ⟨rfl, rfl⟩
  by_cases t1 : sz < 2
  · have HE : Hid (ans = false) := by show _ = _; rw [HB.out]; simp; omega
    clear HB
    go_wp2_with fail
    go_ret
    exact ⟨by rw [HE.out]; rfl, rfl⟩
  have s1 : decide (2 ≤ sz) = true := by simpa using t1
  rw [s1, Bool.true_and] at HB
  by_cases t2 : p = 0
  · subst t2
    have HB2 : Hid (ans = firstB acc ht) := by show _ = _; rw [HB.out]; simp
    clear HB HW
    cases acc with
    | nil =>
      have hk : kn = 0 := by simpa using hlen.symm
      subst hk
      have HE : Hid (ans = true) := HB2.out
      clear HB2
      go_wp2_with fail
      go_ret
      exact ⟨by rw [HE.out]; rfl, rfl⟩
    | cons q r =>
      obtain ⟨b, ty0, v0, rfl, d0, ha0, f0, r0, hm0, hc0, hh0⟩ := hfirst q r rfl
      have HH0 : Hid (Calls Try.prog f0 #[r0] w' fun e w'_1 => e = .returned (.int .i64 q.ht) ∧ w'_1 = w') := hh0
      have HE : Hid (ans = (q.ht == ht)) := HB2.out
      have hk : 0 < kn := by simp at hlen; omega
      have hbl := lt_of_cellG d0
      clear HB2 hh0 hfirst hlen
      generalize q.ht = qh at *
      have sk : ((kn : Int) == 0) = false := by simp; omega
      go_wp2_with fail
      refine HH0.out.mono ?_
      rintro e w2 ⟨rfl, rfl⟩
      go_wp2_with fail
      refine HH.out.mono ?_
      rintro e w2 ⟨rfl, rfl⟩
      go_wp2_with fail
      go_ret
      exact ⟨by rw [HE.out]; rfl, rfl⟩
  · have s2 : (p != 0) = true := by simpa using t2
    rw [s2, Bool.true_and] at HB
    clear t2
    go_wp2_with fail
    refine HW.out.mono ?_
    rintro e w2 ⟨rfl, rfl⟩
    by_cases t3 : pg = 0
    · subst t3
      have HE : Hid (ans = false) := by show _ = _; rw [HB.out]; simp
      clear HB
      go_wp2_with fail
      go_ret
      exact ⟨by rw [HE.out]; rfl, rfl⟩
    · have s3 : (pg == 0) = false := by simpa using t3
      rw [s3] at HB
      have HB2 : Hid (ans = firstB acc ht) := by show _ = _; rw [HB.out]; simp
      clear HB HW t3
      cases acc with
      | nil =>
        have hk : kn = 0 := by simpa using hlen.symm
        subst hk
        have HE : Hid (ans = true) := HB2.out
        clear HB2
        go_wp2_with fail
        go_ret
        exact ⟨by rw [HE.out]; rfl, rfl⟩
      | cons q r =>
        obtain ⟨b, ty0, v0, rfl, d0, ha0, f0, r0, hm0, hc0, hh0⟩ := hfirst q r rfl
        have HH0 : Hid (Calls Try.prog f0 #[r0] w2 fun e w'_1 => e = .returned (.int .i64 q.ht) ∧ w'_1 = w2) := hh0
        have HE : Hid (ans = (q.ht == ht)) := HB2.out
        have hk : 0 < kn := by simp at hlen; omega
        have hbl := lt_of_cellG d0
        clear HB2 hh0 hfirst hlen
        generalize q.ht = qh at *
        have sk : ((kn : Int) == 0) = false := by simp; omega
        go_wp2_with fail
        refine HH0.out.mono ?_
        rintro e w2 ⟨rfl, rfl⟩
        go_wp2_with fail
        refine HH.out.mono ?_
        rintro e w2 ⟨rfl, rfl⟩
        go_wp2_with fail
        go_ret
        exact ⟨by rw [HE.out]; rfl, rfl⟩
end Go.Proofs.Ytpmagndofiaooaa
