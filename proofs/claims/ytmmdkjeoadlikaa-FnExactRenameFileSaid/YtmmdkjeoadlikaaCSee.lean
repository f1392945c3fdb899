import Derived.Test.YtmmdkjeoadlikaaCCac
import Derived.Maps.OwnSet
namespace Go.Proofs.Ytmmdkjeoadlikaa
open Go.RowKit Go.Maps
set_option linter.unusedVariables false
set_option maxRecDepth 100000

def CSRes (w w' : World) (fs : List PF) (ps : List PP) (cp fu : Int) (r : Option Nat) (t : Int) (ok : Bool) : Prop :=
  ok = implV fs ps cp fu ∧ Below w.heap.size w w' ∧ (ok = true → t = totalI (lastF ps fs) ∧ ∃ mb k D, r = some mb ∧ w.heap.size ≤ mb ∧ MapAt w' mb k D ∧ Rep D (lastF ps fs))
theorem inv_all {fs : List PF} (h : filesOk fs = true) : Inv fs := by
  have h2 : ∀ i, i < fs.length → fileOk fs i = true := of_decide_eq_true h
  have := inv_of_ok (k := fs.length) (Nat.le_refl _) h2
  rwa [List.take_length] at this
theorem implV_head {fs : List PF} {ps : List PP} {cp fu : Int} (h : ¬ (0 ≤ cp ∧ cp ≤ 1000 ∧ -1 ≤ fu ∧ fu ≤ 1000000)) : false = implV fs ps cp fu := by simp [implV, h]

set_option maxHeartbeats 2000000 in
theorem countSeen_head (v0 v1 : Value) (cp fu : Int) (de : Bool) (w : World) (h : ¬ (0 ≤ cp ∧ cp ≤ 1000 ∧ -1 ≤ fu ∧ fu ≤ 1000000)) :
    Calls Try.prog 69 #[.agg #[v0, v1, .int .i64 cp, .int .i64 fu, .bool de]] w fun e w' => e = .returned (.tuple #[.agg #[.map none, .int .i64 0], .bool false]) ∧ Below w.heap.size w w' := by
  by_cases t1 : cp < 0
  · have s1 : decide (cp < 0) = true := by simp; omega
    clear h
    go_enter Try.func69, Try.ntmps69
    go_wp2
    exact bodyPost_ret (v := .tuple #[.agg #[.map none, .int .i64 0], .bool false]) (by simp [results, Try.results69, go_sem]) rfl ⟨rfl, ((Below.refl _ _).alloc (Nat.le_refl _) _).alloc (by simp) _⟩
  · have s1 : decide (cp < 0) = false := by simp; omega
    by_cases t2 : 1000 < cp
    · have s2 : decide ((1000 : Int) < cp) = true := by simp; omega
      clear h
      go_enter Try.func69, Try.ntmps69
      go_wp2
      exact bodyPost_ret (v := .tuple #[.agg #[.map none, .int .i64 0], .bool false]) (by simp [results, Try.results69, go_sem]) rfl ⟨rfl, ((Below.refl _ _).alloc (Nat.le_refl _) _).alloc (by simp) _⟩
    · have s2 : decide ((1000 : Int) < cp) = false := by simp; omega
      by_cases t3 : fu < -1
      · have s3 : decide (fu < -1) = true := by simp; omega
        clear h
        go_enter Try.func69, Try.ntmps69
        go_wp2
        exact bodyPost_ret (v := .tuple #[.agg #[.map none, .int .i64 0], .bool false]) (by simp [results, Try.results69, go_sem]) rfl ⟨rfl, ((Below.refl _ _).alloc (Nat.le_refl _) _).alloc (by simp) _⟩
      · have s3 : decide (fu < -1) = false := by simp; omega
        have s4 : decide ((1000000 : Int) < fu) = true := by simp; omega
        clear h
        go_enter Try.func69, Try.ntmps69
        go_wp2
        exact bodyPost_ret (v := .tuple #[.agg #[.map none, .int .i64 0], .bool false]) (by simp [results, Try.results69, go_sem]) rfl ⟨rfl, ((Below.refl _ _).alloc (Nat.le_refl _) _).alloc (by simp) _⟩

set_option maxRecDepth 100000 in
set_option maxHeartbeats 2000000 in
theorem countSeen_main (a : Option Addr) (n c : Nat) (fs : List PF) (b : Option Addr) (m d : Nat) (ps : List PP) (cp fu : Int) (de : Bool) (w : World) (A B : Nat) (hB : B ≤ w.heap.size) (hF : FilesAt w A B a n c fs) (hP : PendsAt w A B b m d ps)
    (hall : ∀ j, j < n → (fs.getD j (ByteArray.empty, [])).2.length ≤ 1048576) (h : 0 ≤ cp ∧ cp ≤ 1000 ∧ -1 ≤ fu ∧ fu ≤ 1000000) :
    Calls Try.prog 69 #[.agg #[.slice a n c, .slice b m d, .int .i64 cp, .int .i64 fu, .bool de]] w fun e w' => ∃ (r : Option Nat) (t : Int) (ok : Bool), e = .returned (.tuple #[.agg #[.map r, .int .i64 t], .bool ok]) ∧ CSRes w w' fs ps cp fu r t ok := by
  obtain ⟨h1, h2, h3, h4⟩ := h
  have s1 : decide (cp < 0) = false := by simp; omega
  have s2 : decide ((1000 : Int) < cp) = false := by simp; omega
  have s3 : decide (fu < -1) = false := by simp; omega
  have s4 : decide ((1000000 : Int) < fu) = false := by simp; omega
  have hb0 : Below w.heap.size w ((w.alloc (.cells #[.slice a n c, .slice b m d, .int .i64 cp, .int .i64 fu, .bool de] 32)).alloc (.cells #[.map none, .int .i64 0] 99)) := ((Below.refl _ _).alloc (Nat.le_refl _) _).alloc (by simp) _
  have hfl := hF.1
  have HIV : Hid (implV fs ps cp fu = (decide (fs.length ≤ 12) && filesOk fs && (decide (ps.length ≤ 1000) && cacheI cp ps fs))) := by
    show _ = _
    unfold implV
    rw [show decide (0 ≤ cp ∧ cp ≤ 1000 ∧ -1 ≤ fu ∧ fu ≤ 1000000) = true from decide_eq_true ⟨h1, h2, h3, h4⟩]
    simp [Bool.and_assoc]
  go_enter Try.func69, Try.ntmps69
  go_wp2_with fail
  clear s1 s2 s3 s4
  refine (countFiles_any _ _ _ fs _ A B (by simp; omega) (hF.below (hb0.mono hB)) hall).mono ?_
  rintro e w1 ⟨mb, t, ok, rfl, hok, hmb, hyes, hb1⟩
  simp at hmb
  have hz := hb1.size
  simp at hz
  have hz1 : w.heap.size < w1.heap.size := by omega
  have hz2 : w.heap.size + 1 < w1.heap.size := by omega
  obtain ⟨hc1, hf1⟩ := bcell hb1
  have hbel1 := hb0.trans (hb1.mono (by simp; omega))
  cases ok with
  | false =>
    have HB : Hid (false = implV fs ps cp fu) := by show _ = _; rw [HIV.out, ← hok]; simp
    clear hyes hok hb1
    go_wp2_with fail
    exact bodyPost_ret (v := .tuple #[.agg #[.map none, .int .i64 0], .bool false]) (by simp [results, Try.results69, go_sem, hc1, hz2]) rfl ⟨none, 0, false, rfl, HB.out, ((hbel1.setCell (by simp) _).setCell (by simp) _).alloc (by simp; omega) _, fun h => by cases h⟩
  | true =>
    obtain ⟨ht, D, hM, hR⟩ := hyes rfl
    subst ht
    simp only [Bool.true_eq, Bool.and_eq_true, decide_eq_true_eq] at hok
    have hI := inv_all hok.2
    have htot : totalI fs ≤ 1073741824 := by
      have := totalI_small (fs := fs) (K := 1048576) (fun j hj => hall j (by omega))
      have h12 : ((fs.length : Int)) ≤ 12 := by omega
      omega
    have HIV2 : Hid (implV fs ps cp fu = (decide (ps.length ≤ 1000) && pendsOk ps fs && fitsB cp (lastF ps fs))) := by
      show _ = _
      rw [HIV.out, cacheI_eq, hok.2, show decide (fs.length ≤ 12) = true by simp; omega]
      simp [Bool.and_assoc]
    have hb2 : Below w1.heap.size w1 (w1.alloc (.cells #[.map (some mb), .int .i64 (totalI fs)] 99)) := (Below.refl _ _).alloc (Nat.le_refl _) _
    have hbel2 : Below w.heap.size w (w1.alloc (.cells #[.map (some mb), .int .i64 (totalI fs)] 99)) := hbel1.alloc (by omega) _
    have hk0 : fs.length ≤ 1048576 := by omega
    have HN0 : Hid (w1.heap[w.heap.size]? = some (.cells #[.slice a n c, .slice b m d, .int .i64 cp, .int .i64 fu, .bool de] 32)) := by
      show _ = _
      rw [hb1.block _ (by simp; omega), Below.heap_alloc _ _ _ (by simp)]; exact heap_alloc_new w _
    have HN1 : Hid (w1.heap[w.heap.size + 1]? = some (.cells #[.map none, .int .i64 0] 99)) := by
      show _ = _
      rw [hb1.block _ (by simp)]
      have := heap_alloc_new (w.alloc (.cells #[.slice a n c, .slice b m d, .int .i64 cp, .int .i64 fu, .bool de] 32)) (.cells #[.map none, .int .i64 0] 99)
      simpa using this
    clear hyes hok hb1
    go_wp2_with fail
    refine (countCache_any _ _ _ ps fs _ A B (w.heap.size + 1 + 1) w1.heap.size mb fs.length D (hP.below (hbel2.mono hB)) (by omega) (by simp; omega) (by omega) (by omega) (heap_alloc_new w1 _) (hM.keep (hb2.block _ hM.lt)) hR hI hk0 htot).mono ?_
    rintro e w3 ⟨ok2, rfl, hok2, hT, hyes2⟩
    have hz3 := hT.size
    simp at hz3
    have hml := hM.lt
    have HN03 : w3.heap[w.heap.size]? = some (.cells #[.slice a n c, .slice b m d, .int .i64 cp, .int .i64 fu, .bool de] 32) := (hT.block _ (by simp; omega) (by omega) (by omega)).trans ((hb2.block _ hz1).trans HN0.out)
    have HN13 : w3.heap[w.heap.size + 1]? = some (.cells #[.map none, .int .i64 0] 99) := (hT.block _ (by simp; omega) (by omega) (by omega)).trans ((hb2.block _ hz2).trans HN1.out)
    obtain ⟨y0, y1, y2⟩ := box_cells HN03
    obtain ⟨⟨r0, r1⟩, fr0, fr1⟩ := two_cells HN13
    have hbel3 : Below w.heap.size w w3 := hbel2.trans (hT.below (by simp; omega) (by omega) (by omega))
    clear HN03 HN13 hT hM hR hI hc1 hf1 HN0 HN1 hb2 hbel2 hbel1
    cases ok2 with
    | false =>
      have HB : Hid (false = implV fs ps cp fu) := by show _ = _; rw [HIV2.out, ← hok2]; simp
      clear hyes2 hok2
      generalize totalI fs = tt at *
      go_wp2_with fail
      exact bodyPost_ret (v := .tuple #[.agg #[.map none, .int .i64 0], .bool false]) (by simp [results, Try.results69, go_sem, r0, r1]) rfl ⟨none, 0, false, rfl, HB.out, (hbel3.setCell (by simp) _).setCell (by simp) _, fun h => by cases h⟩
    | true =>
      obtain ⟨hc3, D3, hM3, hR3⟩ := hyes2 rfl
      obtain ⟨⟨q0, q1⟩, _, _⟩ := two_cells hc3
      have hM3' : w3.ownsMap Try.prog 9 (plainElem Try.prog 2) mb (fs.length + ps.length) D3 := hM3
      have hsz := hR3.size_
      have HIV3 : Hid (implV fs ps cp fu = (decide (Maps.size D3 ≤ 12) && decide (totalI (lastF ps fs) ≤ cp))) := by
        show _ = _
        rw [HIV2.out, ← hok2, hsz]; simp [fitsB]
      have HT3 : Hid (totalI (lastF ps fs) = totalI (lastF ps fs)) := rfl
      have hmap := hM3.lt
      clear hyes2 hok2 hc3 hsz
      obtain ⟨T, hTe⟩ : ∃ T, T = totalI (lastF ps fs) := ⟨_, rfl⟩
      rw [← hTe] at q1 HIV3
      have HTE : Hid (T = totalI (lastF ps fs)) := hTe
      clear hTe HT3
      generalize totalI fs = tt at *
      obtain ⟨z, hze⟩ : ∃ z, z = Maps.size D3 := ⟨_, rfl⟩
      rw [← hze] at HIV3
      have HZ : Hid (Maps.size D3 = z) := hze.symm
      clear hze
      have hlen := hM3'.len Try.underlying97 3
      rw [HZ.out] at hlen
      by_cases t5 : 12 < z
      · have s5 : decide ((12 : Int) < (z : Int)) = true := by simp; omega
        have HB : Hid (false = implV fs ps cp fu) := by show _ = _; rw [HIV3.out, show decide (z ≤ 12) = false by simp; omega]; simp
        go_wp2_with fail
        exact bodyPost_ret (v := .tuple #[.agg #[.map none, .int .i64 0], .bool false]) (by simp [results, Try.results69, go_sem, r0, r1]) rfl ⟨none, 0, false, rfl, HB.out, (hbel3.setCell (by simp) _).setCell (by simp) _, fun h => by cases h⟩
      · have s5 : decide ((12 : Int) < (z : Int)) = false := by simp; omega
        by_cases t6 : cp < T
        · have s6 : decide (cp < T) = true := by simp; omega
          have HB : Hid (false = implV fs ps cp fu) := by show _ = _; rw [HIV3.out, show decide (T ≤ cp) = false by simp; omega]; simp
          go_wp2_with fail
          exact bodyPost_ret (v := .tuple #[.agg #[.map none, .int .i64 0], .bool false]) (by simp [results, Try.results69, go_sem, r0, r1]) rfl ⟨none, 0, false, rfl, HB.out, (hbel3.setCell (by simp) _).setCell (by simp) _, fun h => by cases h⟩
        · have s6 : decide (cp < T) = false := by simp; omega
          have HB : Hid (true = implV fs ps cp fu) := by show _ = _; rw [HIV3.out, show decide (T ≤ cp) = true by simp; omega, show decide (z ≤ 12) = true by simp; omega]; rfl
          go_wp2_with fail
          refine bodyPost_ret (v := .tuple #[.agg #[.map (some mb), .int .i64 T], .bool true]) (by simp [results, Try.results69, go_sem, r0, r1]) rfl ⟨some mb, T, true, rfl, HB.out, (hbel3.setCell (by simp) _).setCell (by simp) _, fun _ => ⟨HTE.out, mb, fs.length + ps.length, D3, rfl, by omega, ?_, hR3⟩⟩
          refine hM3.keep ?_
          rw [Below.heap_setCell _ _ _ _ (by show mb ≠ w.heap.size + 1; omega), Below.heap_setCell _ _ _ _ (by show mb ≠ w.heap.size + 1; omega)]

theorem countSeen_any (a : Option Addr) (n c : Nat) (fs : List PF) (b : Option Addr) (m d : Nat) (ps : List PP) (cp fu : Int) (de : Bool) (w : World) (A B : Nat) (hB : B ≤ w.heap.size) (hF : FilesAt w A B a n c fs) (hP : PendsAt w A B b m d ps)
    (hall : ∀ j, j < n → (fs.getD j (ByteArray.empty, [])).2.length ≤ 1048576) :
    Calls Try.prog 69 #[.agg #[.slice a n c, .slice b m d, .int .i64 cp, .int .i64 fu, .bool de]] w fun e w' => ∃ (r : Option Nat) (t : Int) (ok : Bool), e = .returned (.tuple #[.agg #[.map r, .int .i64 t], .bool ok]) ∧ CSRes w w' fs ps cp fu r t ok := by
  by_cases h : 0 ≤ cp ∧ cp ≤ 1000 ∧ -1 ≤ fu ∧ fu ≤ 1000000
  · exact countSeen_main a n c fs b m d ps cp fu de w A B hB hF hP hall h
  · refine (countSeen_head _ _ cp fu de w h).mono ?_
    rintro e w' ⟨rfl, hb⟩
    exact ⟨none, 0, false, rfl, implV_head h, hb, fun h => by cases h⟩

set_option maxHeartbeats 400000 in
theorem implValid_any (a : Option Addr) (n c : Nat) (fs : List PF) (b : Option Addr) (m d : Nat) (ps : List PP) (cp fu : Int) (de : Bool) (w : World) (A B : Nat) (hB : B ≤ w.heap.size) (hF : FilesAt w A B a n c fs) (hP : PendsAt w A B b m d ps)
    (hall : ∀ j, j < n → (fs.getD j (ByteArray.empty, [])).2.length ≤ 1048576) :
    Calls Try.prog 33 #[.agg #[.slice a n c, .slice b m d, .int .i64 cp, .int .i64 fu, .bool de]] w fun e w' => e = .returned (.bool (implV fs ps cp fu)) ∧ Below w.heap.size w w' := by
  have hb0 : Below w.heap.size w (w.alloc (.cells #[.slice a n c, .slice b m d, .int .i64 cp, .int .i64 fu, .bool de] 32)) := (Below.refl _ _).alloc (Nat.le_refl _) _
  go_enter Try.func33, Try.ntmps33
  go_wp2_with fail
  refine (countSeen_any _ _ _ fs _ _ _ ps _ _ _ _ A B (by simp; omega) (hF.below (hb0.mono hB)) (hP.below (hb0.mono hB)) hall).mono ?_
  rintro e w1 ⟨r, t, ok, rfl, hok, hb1, _⟩
  have hb2 := hb0.trans (hb1.mono (by simp))
  have hz := hb1.size
  simp at hz
  have HO : Hid (ok = implV fs ps cp fu) := hok
  clear hok hb1
  go_wp2_with fail
  go_ret
  exact ⟨by rw [← HO.out]; rfl, hb2.alloc (by omega) _⟩
end Go.Proofs.Ytmmdkjeoadlikaa
