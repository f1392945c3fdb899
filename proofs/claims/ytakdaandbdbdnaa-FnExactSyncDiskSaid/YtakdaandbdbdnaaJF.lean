import Derived.Test.YtakdaandbdbdnaaTo
import Derived.Test.YtakdaandbdbdnaaEq
import Derived.Test.YtakdaandbdbdnaaSz
import Derived.Test.YtakdaandbdbdnaaCCac
import Derived.Maps.OwnSet
import Derived.Deep.RegionHeld3
namespace Go.Proofs.Ytakdaandbdbdnaa
open Go.RowKit Go.Maps
set_option linter.unusedVariables false
set_option maxRecDepth 100000

def CSRes (w w' : World) (fs : List PF) (ps : List PP) (cp fu : Int) (r : Option Nat) (t : Int) (ok : Bool) : Prop :=
  ok = implV fs ps cp fu ∧ Below w.heap.size w w' ∧ (ok = true → t = totalI (lastF ps fs) ∧ ∃ mb k D, r = some mb ∧ w.heap.size ≤ mb ∧ MapAt w' mb k D ∧ Rep D (lastF ps fs))
theorem inv_all {fs : List PF} (h : filesOk fs = true) : Inv fs := by
  have h2 : ∀ i, i < fs.length → fileOk fs i = true := of_decide_eq_true h
  have := inv_of_ok (k := fs.length) (Nat.le_refl _) h2
  rwa [List.take_length] at this
theorem implV_head {fs : List PF} {ps : List PP} {cp fu : Int} (h : ¬ (0 ≤ cp ∧ cp ≤ 1000 ∧ -1 ≤ fu ∧ fu ≤ 1000000)) : false = implV fs ps cp fu := by simp [implV, h]

set_option maxHeartbeats 2000000 in
theorem countSeen_head (v0 v1 : Value) (cp fu : Int) (de : Bool) (w : World) (h : ¬ (0 ≤ cp ∧ cp ≤ 1000 ∧ -1 ≤ fu ∧ fu ≤ 1000000)) :
    Calls Try.prog 79 #[.agg #[v0, v1, .int .i64 cp, .int .i64 fu, .bool de]] w fun e w' => e = .returned (.tuple #[.agg #[.map none, .int .i64 0], .bool false]) ∧ Below w.heap.size w w' := by
  by_cases t1 : cp < 0
  · have s1 : decide (cp < 0) = true := by simp; omega
    clear h
    go_enter Try.func79, Try.ntmps79
    go_wp2
    exact bodyPost_ret (v := .tuple #[.agg #[.map none, .int .i64 0], .bool false]) (by simp [results, Try.results79, go_sem]) rfl ⟨rfl, ((Below.refl _ _).alloc (Nat.le_refl _) _).alloc (by simp) _⟩
  · have s1 : decide (cp < 0) = false := by simp; omega
    by_cases t2 : 1000 < cp
    · have s2 : decide ((1000 : Int) < cp) = true := by simp; omega
      clear h
      go_enter Try.func79, Try.ntmps79
      go_wp2
      exact bodyPost_ret (v := .tuple #[.agg #[.map none, .int .i64 0], .bool false]) (by simp [results, Try.results79, go_sem]) rfl ⟨rfl, ((Below.refl _ _).alloc (Nat.le_refl _) _).alloc (by simp) _⟩
    · have s2 : decide ((1000 : Int) < cp) = false := by simp; omega
      by_cases t3 : fu < -1
      · have s3 : decide (fu < -1) = true := by simp; omega
        clear h
        go_enter Try.func79, Try.ntmps79
        go_wp2
        exact bodyPost_ret (v := .tuple #[.agg #[.map none, .int .i64 0], .bool false]) (by simp [results, Try.results79, go_sem]) rfl ⟨rfl, ((Below.refl _ _).alloc (Nat.le_refl _) _).alloc (by simp) _⟩
      · have s3 : decide (fu < -1) = false := by simp; omega
        have s4 : decide ((1000000 : Int) < fu) = true := by simp; omega
        clear h
        go_enter Try.func79, Try.ntmps79
        go_wp2
        exact bodyPost_ret (v := .tuple #[.agg #[.map none, .int .i64 0], .bool false]) (by simp [results, Try.results79, go_sem]) rfl ⟨rfl, ((Below.refl _ _).alloc (Nat.le_refl _) _).alloc (by simp) _⟩

set_option maxRecDepth 100000 in
set_option maxHeartbeats 2000000 in
theorem countSeen_main (a : Option Addr) (n c : Nat) (fs : List PF) (b : Option Addr) (m d : Nat) (ps : List PP) (cp fu : Int) (de : Bool) (w : World) (A B : Nat) (hB : B ≤ w.heap.size) (hF : FilesAt w A B a n c fs) (hP : PendsAt w A B b m d ps)
    (hall : ∀ j, j < n → (fs.getD j (ByteArray.empty, [])).2.length ≤ 1048576) (h : 0 ≤ cp ∧ cp ≤ 1000 ∧ -1 ≤ fu ∧ fu ≤ 1000000) :
    Calls Try.prog 79 #[.agg #[.slice a n c, .slice b m d, .int .i64 cp, .int .i64 fu, .bool de]] w fun e w' => ∃ (r : Option Nat) (t : Int) (ok : Bool), e = .returned (.tuple #[.agg #[.map r, .int .i64 t], .bool ok]) ∧ CSRes w w' fs ps cp fu r t ok := by
  obtain ⟨h1, h2, h3, h4⟩ := h
  have s1 : decide (cp < 0) = false := by simp; omega
  have s2 : decide ((1000 : Int) < cp) = false := by simp; omega
  have s3 : decide (fu < -1) = false := by simp; omega
  have s4 : decide ((1000000 : Int) < fu) = false := by simp; omega
  have hb0 : Below w.heap.size w ((w.alloc (.cells #[.slice a n c, .slice b m d, .int .i64 cp, .int .i64 fu, .bool de] 26)).alloc (.cells #[.map none, .int .i64 0] 113)) := ((Below.refl _ _).alloc (Nat.le_refl _) _).alloc (by simp) _
  have hfl := hF.1
  have HIV : Hid (implV fs ps cp fu = (decide (fs.length ≤ 12) && filesOk fs && (decide (ps.length ≤ 1000) && cacheI cp ps fs))) := by
    show _ = _
    unfold implV
    rw [show decide (0 ≤ cp ∧ cp ≤ 1000 ∧ -1 ≤ fu ∧ fu ≤ 1000000) = true from decide_eq_true ⟨h1, h2, h3, h4⟩]
    simp [Bool.and_assoc]
  go_enter Try.func79, Try.ntmps79
  go_wp2_with fail
  clear s1 s2 s3 s4
  refine (countFiles_any _ _ _ fs _ A B (by simp; omega) (hF.below (hb0.mono hB)) hall).mono ?_
  rintro e w1 ⟨mb, t, ok, rfl, hok, hmb, hyes, hb1⟩
  simp at hmb
  have hz := hb1.size
  simp at hz
  have hz1 : w.heap.size < w1.heap.size := by omega
  have hz2 : w.heap.size + 1 < w1.heap.size := by omega
  obtain ⟨hc1, hf1⟩ := bcell hb1
  have hbel1 := hb0.trans (hb1.mono (by simp; omega))
  cases ok with
  | false =>
    have HB : Hid (false = implV fs ps cp fu) := by show _ = _; rw [HIV.out, ← hok]; simp
    clear hyes hok hb1
    go_wp2_with fail
    exact bodyPost_ret (v := .tuple #[.agg #[.map none, .int .i64 0], .bool false]) (by simp [results, Try.results79, go_sem, hc1, hz2]) rfl ⟨none, 0, false, rfl, HB.out, ((hbel1.setCell (by simp) _).setCell (by simp) _).alloc (by simp; omega) _, fun h => by cases h⟩
  | true =>
    obtain ⟨ht, D, hM, hR⟩ := hyes rfl
    subst ht
    simp only [Bool.true_eq, Bool.and_eq_true, decide_eq_true_eq] at hok
    have hI := inv_all hok.2
    have htot : totalI fs ≤ 1073741824 := by
      have := totalI_small (fs := fs) (K := 1048576) (fun j hj => hall j (by omega))
      have h12 : ((fs.length : Int)) ≤ 12 := by omega
      omega
    have HIV2 : Hid (implV fs ps cp fu = (decide (ps.length ≤ 1000) && pendsOk ps fs && fitsB cp (lastF ps fs))) := by
      show _ = _
      rw [HIV.out, cacheI_eq, hok.2, show decide (fs.length ≤ 12) = true by simp; omega]
      simp [Bool.and_assoc]
    have hb2 : Below w1.heap.size w1 (w1.alloc (.cells #[.map (some mb), .int .i64 (totalI fs)] 113)) := (Below.refl _ _).alloc (Nat.le_refl _) _
    have hbel2 : Below w.heap.size w (w1.alloc (.cells #[.map (some mb), .int .i64 (totalI fs)] 113)) := hbel1.alloc (by omega) _
    have hk0 : fs.length ≤ 1048576 := by omega
    have HN0 : Hid (w1.heap[w.heap.size]? = some (.cells #[.slice a n c, .slice b m d, .int .i64 cp, .int .i64 fu, .bool de] 26)) := by
      show _ = _
      rw [hb1.block _ (by simp; omega), Below.heap_alloc _ _ _ (by simp)]; exact heap_alloc_new w _
    have HN1 : Hid (w1.heap[w.heap.size + 1]? = some (.cells #[.map none, .int .i64 0] 113)) := by
      show _ = _
      rw [hb1.block _ (by simp)]
      have := heap_alloc_new (w.alloc (.cells #[.slice a n c, .slice b m d, .int .i64 cp, .int .i64 fu, .bool de] 26)) (.cells #[.map none, .int .i64 0] 113)
      simpa using this
    clear hyes hok hb1
    go_wp2_with fail
    refine (countCache_any _ _ _ ps fs _ A B (w.heap.size + 1 + 1) w1.heap.size mb fs.length D (hP.below (hbel2.mono hB)) (by omega) (by simp; omega) (by omega) (by omega) (heap_alloc_new w1 _) (hM.keep (hb2.block _ hM.lt)) hR hI hk0 htot).mono ?_
    rintro e w3 ⟨ok2, rfl, hok2, hT, hyes2⟩
    have hz3 := hT.size
    simp at hz3
    have hml := hM.lt
    have HN03 : w3.heap[w.heap.size]? = some (.cells #[.slice a n c, .slice b m d, .int .i64 cp, .int .i64 fu, .bool de] 26) := (hT.block _ (by simp; omega) (by omega) (by omega)).trans ((hb2.block _ hz1).trans HN0.out)
    have HN13 : w3.heap[w.heap.size + 1]? = some (.cells #[.map none, .int .i64 0] 113) := (hT.block _ (by simp; omega) (by omega) (by omega)).trans ((hb2.block _ hz2).trans HN1.out)
    obtain ⟨y0, y1, y2⟩ := box_cells HN03
    obtain ⟨⟨r0, r1⟩, fr0, fr1⟩ := two_cells HN13
    have hbel3 : Below w.heap.size w w3 := hbel2.trans (hT.below (by simp; omega) (by omega) (by omega))
    clear HN03 HN13 hT hM hR hI hc1 hf1 HN0 HN1 hb2 hbel2 hbel1
    cases ok2 with
    | false =>
      have HB : Hid (false = implV fs ps cp fu) := by show _ = _; rw [HIV2.out, ← hok2]; simp
      clear hyes2 hok2
      generalize totalI fs = tt at *
      go_wp2_with fail
      exact bodyPost_ret (v := .tuple #[.agg #[.map none, .int .i64 0], .bool false]) (by simp [results, Try.results79, go_sem, r0, r1]) rfl ⟨none, 0, false, rfl, HB.out, (hbel3.setCell (by simp) _).setCell (by simp) _, fun h => by cases h⟩
    | true =>
      obtain ⟨hc3, D3, hM3, hR3⟩ := hyes2 rfl
      obtain ⟨⟨q0, q1⟩, _, _⟩ := two_cells hc3
      have hM3' : w3.ownsMap Try.prog 9 (plainElem Try.prog 2) mb (fs.length + ps.length) D3 := hM3
      have hsz := hR3.size_
      have HIV3 : Hid (implV fs ps cp fu = (decide (Maps.size D3 ≤ 12) && decide (totalI (lastF ps fs) ≤ cp))) := by
        show _ = _
        rw [HIV2.out, ← hok2, hsz]; simp [fitsB]
      have HT3 : Hid (totalI (lastF ps fs) = totalI (lastF ps fs)) := rfl
      have hmap := hM3.lt
      clear hyes2 hok2 hc3 hsz
      obtain ⟨T, hTe⟩ : ∃ T, T = totalI (lastF ps fs) := ⟨_, rfl⟩
      rw [← hTe] at q1 HIV3
      have HTE : Hid (T = totalI (lastF ps fs)) := hTe
      clear hTe HT3
      generalize totalI fs = tt at *
      obtain ⟨z, hze⟩ : ∃ z, z = Maps.size D3 := ⟨_, rfl⟩
      rw [← hze] at HIV3
      have HZ : Hid (Maps.size D3 = z) := hze.symm
      clear hze
      have hlen := hM3'.len Try.underlying111 3
      rw [HZ.out] at hlen
      by_cases t5 : 12 < z
      · have s5 : decide ((12 : Int) < (z : Int)) = true := by simp; omega
        have HB : Hid (false = implV fs ps cp fu) := by show _ = _; rw [HIV3.out, show decide (z ≤ 12) = false by simp; omega]; simp
        go_wp2_with fail
        exact bodyPost_ret (v := .tuple #[.agg #[.map none, .int .i64 0], .bool false]) (by simp [results, Try.results79, go_sem, r0, r1]) rfl ⟨none, 0, false, rfl, HB.out, (hbel3.setCell (by simp) _).setCell (by simp) _, fun h => by cases h⟩
      · have s5 : decide ((12 : Int) < (z : Int)) = false := by simp; omega
        by_cases t6 : cp < T
        · have s6 : decide (cp < T) = true := by simp; omega
          have HB : Hid (false = implV fs ps cp fu) := by show _ = _; rw [HIV3.out, show decide (T ≤ cp) = false by simp; omega]; simp
          go_wp2_with fail
          exact bodyPost_ret (v := .tuple #[.agg #[.map none, .int .i64 0], .bool false]) (by simp [results, Try.results79, go_sem, r0, r1]) rfl ⟨none, 0, false, rfl, HB.out, (hbel3.setCell (by simp) _).setCell (by simp) _, fun h => by cases h⟩
        · have s6 : decide (cp < T) = false := by simp; omega
          have HB : Hid (true = implV fs ps cp fu) := by show _ = _; rw [HIV3.out, show decide (T ≤ cp) = true by simp; omega, show decide (z ≤ 12) = true by simp; omega]; rfl
          go_wp2_with fail
          refine bodyPost_ret (v := .tuple #[.agg #[.map (some mb), .int .i64 T], .bool true]) (by simp [results, Try.results79, go_sem, r0, r1]) rfl ⟨some mb, T, true, rfl, HB.out, (hbel3.setCell (by simp) _).setCell (by simp) _, fun _ => ⟨HTE.out, mb, fs.length + ps.length, D3, rfl, by omega, ?_, hR3⟩⟩
          refine hM3.keep ?_
          rw [Below.heap_setCell _ _ _ _ (by show mb ≠ w.heap.size + 1; omega), Below.heap_setCell _ _ _ _ (by show mb ≠ w.heap.size + 1; omega)]

theorem countSeen_any (a : Option Addr) (n c : Nat) (fs : List PF) (b : Option Addr) (m d : Nat) (ps : List PP) (cp fu : Int) (de : Bool) (w : World) (A B : Nat) (hB : B ≤ w.heap.size) (hF : FilesAt w A B a n c fs) (hP : PendsAt w A B b m d ps)
    (hall : ∀ j, j < n → (fs.getD j (ByteArray.empty, [])).2.length ≤ 1048576) :
    Calls Try.prog 79 #[.agg #[.slice a n c, .slice b m d, .int .i64 cp, .int .i64 fu, .bool de]] w fun e w' => ∃ (r : Option Nat) (t : Int) (ok : Bool), e = .returned (.tuple #[.agg #[.map r, .int .i64 t], .bool ok]) ∧ CSRes w w' fs ps cp fu r t ok := by
  by_cases h : 0 ≤ cp ∧ cp ≤ 1000 ∧ -1 ≤ fu ∧ fu ≤ 1000000
  · exact countSeen_main a n c fs b m d ps cp fu de w A B hB hF hP hall h
  · refine (countSeen_head _ _ cp fu de w h).mono ?_
    rintro e w' ⟨rfl, hb⟩
    exact ⟨none, 0, false, rfl, implV_head h, hb, fun h => by cases h⟩

set_option maxHeartbeats 400000 in
theorem implValid_any (a : Option Addr) (n c : Nat) (fs : List PF) (b : Option Addr) (m d : Nat) (ps : List PP) (cp fu : Int) (de : Bool) (w : World) (A B : Nat) (hB : B ≤ w.heap.size) (hF : FilesAt w A B a n c fs) (hP : PendsAt w A B b m d ps)
    (hall : ∀ j, j < n → (fs.getD j (ByteArray.empty, [])).2.length ≤ 1048576) :
    Calls Try.prog 49 #[.agg #[.slice a n c, .slice b m d, .int .i64 cp, .int .i64 fu, .bool de]] w fun e w' => e = .returned (.bool (implV fs ps cp fu)) ∧ Below w.heap.size w w' := by
  have hb0 : Below w.heap.size w (w.alloc (.cells #[.slice a n c, .slice b m d, .int .i64 cp, .int .i64 fu, .bool de] 26)) := (Below.refl _ _).alloc (Nat.le_refl _) _
  go_enter Try.func49, Try.ntmps49
  go_wp2_with fail
  refine (countSeen_any _ _ _ fs _ _ _ ps _ _ _ _ A B (by simp; omega) (hF.below (hb0.mono hB)) (hP.below (hb0.mono hB)) hall).mono ?_
  rintro e w1 ⟨r, t, ok, rfl, hok, hb1, _⟩
  have hb2 := hb0.trans (hb1.mono (by simp))
  have hz := hb1.size
  simp at hz
  have HO : Hid (ok = implV fs ps cp fu) := hok
  clear hok hb1
  go_wp2_with fail
  go_ret
  exact ⟨by rw [← HO.out]; rfl, hb2.alloc (by omega) _⟩
end Go.Proofs.Ytakdaandbdbdnaa
namespace Go.Proofs.Ytakdaandbdbdnaa
open Go.RowKit Go.Maps
set_option linter.unusedVariables false
set_option maxRecDepth 100000

theorem cacheS_pends {cp : Int} : ∀ (ps : List PP) (fs : List PF), cacheS cp ps fs = true → pendsOk ps fs = true
  | [], _, _ => rfl
  | p :: r, fs, h => by
    simp only [cacheS, Bool.and_eq_true] at h
    simp only [pendsOk, Bool.and_eq_true]
    exact ⟨h.1, cacheS_pends r _ h.2.2⟩

set_option maxRecDepth 100000 in
set_option maxHeartbeats 2000000 in
theorem l1Seen_any (a : Option Addr) (n c : Nat) (fs : List PF) (b : Option Addr) (m d : Nat) (ps : List PP) (cp fu : Int) (de : Bool) (w : World) (A B : Nat) (hB : B ≤ w.heap.size) (hF : FilesAt w A B a n c fs) (hP : PendsAt w A B b m d ps)
    (hn : n ≤ 12) (hcp : cp ≤ 1000) (htot : totalI fs ≤ cp) (hca : cacheS cp ps fs = true) :
    Calls Try.prog 35 #[.agg #[.slice a n c, .slice b m d, .int .i64 cp, .int .i64 fu, .bool de]] w fun e w' => ∃ v xs vs, e = .returned v ∧ OwnF w' (w.heap.size + 1) v (lastF ps fs) xs vs ∧ Below w.heap.size w w' := by
  have hb0 : Below w.heap.size w (w.alloc (.cells #[.slice a n c, .slice b m d, .int .i64 cp, .int .i64 fu, .bool de] 26)) := (Below.refl _ _).alloc (Nat.le_refl _) _
  have hsm := small_of_total (fs := fs) (by omega)
  have hfl := hF.1
  go_enter Try.func35, Try.ntmps35
  go_wp2_with fail
  refine (l1Files_any _ _ _ fs _ A B (by simp; omega) (hF.below (hb0.mono hB)) (by omega) (fun j hj => Nat.le_trans (hsm j (by omega)) (by omega))).mono ?_
  rintro e w1 ⟨v1, xs1, vs1, rfl, hO1, hb1⟩
  have hO1' : OwnF w1 (w.heap.size + 1) v1 fs xs1 vs1 := by simpa using hO1
  have hg1 := hb0.trans (hb1.mono (by simp))
  have hz1 : w.heap.size + 1 ≤ w1.heap.size := by simpa using hb1.size
  have hbx1 : Hid (w1.heap[w.heap.size]? = some (.cells #[.slice a n c, .slice b m d, .int .i64 cp, .int .i64 fu, .bool de] 26)) := (hb1.block _ (by simp)).trans (heap_alloc_new w _)
  obtain ⟨pl, pnc, pc0, pcell⟩ := hP
  unfold maxLen at pc0
  obtain ⟨a1, n1, c1, rfl, hn1, hF1⟩ := hO1'.files
  clear hn1 hF1
  have HCA : Hid (cacheS cp ps fs = true) := hca
  clear hO1 hb1 hca hsm
  obtain ⟨y0, y1, y2⟩ := box_cells hbx1.out
  go_wp2
  go_loopw [3, 4] (fun v i wr => ∃ (k : Nat) (fk : List PF) (xk vk : List Value) (a' : Option Addr) (n' c' : Nat), k ≤ m ∧ i = .int .i64 k ∧ v = .slice a' n' c' ∧ OwnF wr (w.heap.size + 1) (.slice a' n' c') fk xk vk ∧ Hid (fk.length ≤ 12) ∧ Hid (totalI fk ≤ cp) ∧ Hid (cacheS cp (ps.drop k) fk = true) ∧ Hid (lastF ps fs = lastF (ps.drop k) fk) ∧ Below w.heap.size w wr ∧ w.heap.size + 1 ≤ wr.heap.size ∧ Hid (wr.heap[w.heap.size]? = some (.cells #[.slice a n c, .slice b m d, .int .i64 cp, .int .i64 fu, .bool de] 26))) (fun _ i _ => m - (intOf i).toNat)
  case atStart => exact ⟨0, fs, xs1, vs1, a1, n1, c1, Nat.zero_le _, rfl, rfl, hO1', by show _ ≤ _; omega, htot, HCA, rfl, hg1, hz1, hbx1⟩
  case round =>
    clear hO1' hg1 hz1 hbx1 y0 y1 y2
    obtain ⟨k, fk, xk, vk, a', n', c', hk, rfl, rfl, hO, hl12, htk, hca, hla, hbel, hSz, hbox⟩ := hrel
    obtain ⟨y0, y1, y2⟩ := box_cells hbox.out
    by_cases hlt : k < m
    · obtain ⟨pb, poff, rfl, hpb, hpc⟩ := pcell (by omega)
      have e1 := (hpc k hlt).below hpb (hbel.mono hB)
      have e1w := hpc k hlt
      have hdr : ps.drop k = ps.getD k (ByteArray.empty, 0, []) :: ps.drop (k + 1) := by
        rw [List.drop_eq_getElem_cons (by omega)]; simp [List.getD, List.getElem?_eq_getElem (show k < ps.length by omega)]
      obtain ⟨p, hp⟩ : ∃ p, p = ps.getD k (ByteArray.empty, 0, []) := ⟨_, rfl⟩
      rw [← hp] at e1 hdr e1w
      clear hp
      obtain ⟨nm, pq, pd⟩ := p
      obtain ⟨g1, g2, g3, g4, da, dn, dc, g5, g6⟩ := e1
      simp only at g1 g2 g3 g4 g6
      have hca' := hca.out
      rw [hdr] at hca'
      simp only [cacheS, Bool.and_eq_true, pendOk, fitsB, decide_eq_true_eq, beq_iff_eq] at hca'
      obtain ⟨⟨⟨t1, t2⟩, t3, t4⟩, ⟨t5, t6⟩, t7⟩ := hca'
      obtain ⟨pgN, rfl⟩ := Int.eq_ofNat_of_zero_le t3
      have hst : stepP fk (nm, (pgN : Int), pd) = doP fk nm pgN pd := by simp [stepP]
      rw [hst] at t5 t6 t7
      have hla2 : Hid (lastF ps fs = lastF (ps.drop (k + 1)) (doP fk nm pgN pd)) := by show _ = _; rw [hla.out, hdr]; simp only [lastF]; rw [hst]
      have hle := lenI_le_total fk nm
      have htk' := htk.out
      have hl12' := hl12.out
      have hpg : pgN ≤ 1000 := by omega
      have hallk := small_of_total (fs := fk) (by omega)
      have hdn : dn = 128 := by rw [← g6.1]; exact t2
      subst hdn
      have T5 : Hid ((doP fk nm pgN pd).length ≤ 12) := t5
      have T6 : Hid (totalI (doP fk nm pgN pd) ≤ cp) := t6
      have T7 : Hid (cacheS cp (ps.drop (k + 1)) (doP fk nm pgN pd) = true) := t7
      have hbk : pb < wr.heap.size := by have := hbel.size; omega
      have HO : Hid (OwnF wr (w.heap.size + 1) (.slice a' n' c') fk xk vk) := hO
      have HG6 : Hid (BytesAt wr A B da 128 dc pd) := g6
      have HALL : Hid (∀ j, j < fk.length → (fk.getD j (ByteArray.empty, [])).2.length ≤ 1073741824) := fun j hj => Nat.le_trans (hallk j hj) (by omega)
      have hfk : fk.length ≤ 1048576 := by omega
      clear hpc pcell hO g6 hallk t5 t6 t7 hdr hst hle htk' hl12' t1 t2 t3 t4 hca htk hl12 e1w
      go_wp2
      go_region_held3 (fun w' => w'.cell? ⟨w.heap.size, 1, none⟩ = some (.slice (some ⟨pb, poff, none⟩) m d) ∧ w'.cell? ⟨pb, poff + k * 3, none⟩ = some (.string nm) ∧ w'.cell? ⟨pb, poff + k * 3 + 1, none⟩ = some (.int .i64 (pgN : Int)) ∧ w'.cell? ⟨pb, poff + k * 3 + 2, none⟩ = some (.slice da 128 dc)) (go_keep)
        (first | (go_at_call 68; refine (l1Do_any _ _ _ fk xk vk nm pgN _ _ _ pd wr.drew (w.heap.size + 1) A B hSz (HO.out.below ((Below.refl _ _).drew)) (by omega) (HG6.out.below ((Below.refl _ _).drew)) (by omega) g2 hfk (by omega) HALL.out).mono ?_; rintro e w3 ⟨v3, rfl, xs3, vs3, hO3, hb3⟩; have hbw : Below (w.heap.size + 1) wr w3 := ((Below.refl _ wr).drew).trans hb3; have z1 := (hbw.cell (p := ⟨w.heap.size, 1, none⟩) (Nat.lt_succ_self _)).trans y1; have z2 := (hbw.cell (p := ⟨pb, poff + k * 3, none⟩) (by show pb < _; omega)).trans g1; have z3 := (hbw.cell (p := ⟨pb, poff + k * 3 + 1, none⟩) (by show pb < _; omega)).trans g3; have z4 := (hbw.cell (p := ⟨pb, poff + k * 3 + 2, none⟩) (by show pb < _; omega)).trans g5))
      obtain ⟨a3, n3, c3, rfl, hn3, hF3⟩ := hO3.files
      clear hn3 hF3
      have hg3 : Below w.heap.size w w3 := hbel.trans (hbw.mono (by omega))
      have hz3 : w.heap.size + 1 ≤ w3.heap.size := Nat.le_trans hSz hbw.size
      have hbx3 : Hid (w3.heap[w.heap.size]? = some (.cells #[.slice a n c, .slice (some ⟨pb, poff, none⟩) m d, .int .i64 cp, .int .i64 fu, .bool de] 26)) := (hbw.block _ (Nat.lt_succ_self _)).trans hbox.out
      clear hb3 hbw z1 z2 z3 z4 y0 y1 y2 hbel hbox
      go_wp2
      go_roundw
      case rel => exact ⟨k + 1, doP fk nm pgN pd, xs3, vs3, a3, n3, c3, by omega, by go_num, rfl, hO3, T5, T6, T7, hla2, hg3, hz3, hbx3⟩
      case measure => simp [intOf]; omega
    · have HL : Hid (lastF ps fs = fk) := by show _ = _; rw [hla.out, List.drop_eq_nil_of_le (by omega)]; rfl
      go_wp2
      go_ret
      exact ⟨_, xk, vk, rfl, by rw [HL.out]; exact hO, hbel⟩
end Go.Proofs.Ytakdaandbdbdnaa
namespace Go.Proofs.Ytakdaandbdbdnaa
open Go.RowKit Go.Maps
set_option linter.unusedVariables false
set_option maxRecDepth 100000

theorem box5' {wr : World} {N : Nat} {v0 v1 v2 v3 v4 : Value} {t : TypeId} (h : wr.heap[N]? = some (.cells #[v0, v1, v2, v3, v4] t)) : wr.cell? ⟨N, 0, none⟩ = some v0 ∧ wr.cell? ⟨N, 1, none⟩ = some v1 ∧ wr.cell? ⟨N, 2, none⟩ = some v2 ∧ wr.cell? ⟨N, 3, none⟩ = some v3 ∧ wr.cell? ⟨N, 4, none⟩ = some v4 := by
  refine ⟨?_, ?_, ?_, ?_, ?_⟩
  · rw [cell_of_row wr N 0 _ _ _ h]; rfl
  · rw [cell_of_row wr N 1 _ _ _ h]; rfl
  · rw [cell_of_row wr N 2 _ _ _ h]; rfl
  · rw [cell_of_row wr N 3 _ _ _ h]; rfl
  · rw [cell_of_row wr N 4 _ _ _ h]; rfl

/-- How many pages a file has as seen, or -1. -/
def pageC (fs : List PF) (ps : List PP) (cp fu : Int) (nm : ByteArray) : Int :=
  if implV fs ps cp fu = true then (if findN (lastF ps fs) nm < (lastF ps fs).length then lenI (lastF ps fs) nm else -1) else -1
theorem inv_last : ∀ (ps : List PP) (fs : List PF), Inv fs → Inv (lastF ps fs)
  | [], _, h => h
  | p :: r, fs, h => by
    simp only [lastF]
    exact inv_last r _ (doP_inv h)
theorem specV_parts {fs : List PF} {ps : List PP} {cp fu : Int} (h : specV fs ps cp fu = true) : fs.length ≤ 12 ∧ cp ≤ 1000 ∧ totalI fs ≤ cp ∧ cacheS cp ps fs = true ∧ filesOk fs = true := by
  simp only [specV, headB, Bool.and_eq_true, decide_eq_true_eq] at h
  obtain ⟨⟨⟨⟨⟨⟨a1, a2⟩, a3⟩, a4⟩, a5⟩, a6⟩, a7⟩ := h
  exact ⟨a1, a2.2, a6, a7, a5⟩

end Go.Proofs.Ytakdaandbdbdnaa
