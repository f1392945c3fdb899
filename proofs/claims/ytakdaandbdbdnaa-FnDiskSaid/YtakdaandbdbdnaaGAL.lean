import Derived.Test.YtakdaandbdbdnaaGAE
import Derived.Test.YtakdaandbdbdnaaGAH
import Derived.Test.YtakdaandbdbdnaaGAJ
import Derived.Test.YtakdaandbdbdnaaGAK
import Derived.Maps.OwnSet
import Derived.Sort.Walk0
import Derived.Deep.RegionHeld3
namespace Go.Proofs.Ytakdaandbdbdnaa
open Go.RowKit
set_option linter.unusedVariables false
set_option maxRecDepth 100000

set_option maxHeartbeats 400000 in
theorem clone_any (a : Option Addr) (n c : Nat) (bs : List Int) (w : World) (A B : Nat) (hB : B ≤ w.heap.size) (h : BytesAt w A B a n c bs) (hn : n ≤ 1048576) :
    Calls Try.prog 39 #[.slice a n c] w fun e w' => ∃ va vc, e = .returned (.slice va n vc) ∧ w'.ownsRow w.heap.size 5 1 (.slice va n vc) n (u8s bs) ∧ Below w.heap.size w w' := by
  have hq : ∀ (w : World) (a : Option Addr) (n c n' c' : Nat), (binOp .eql 22 (.slice a n c) (.slice none n' c')).run Try.prog w = .ok (.bool a.isNone) w := fun w a n c n' c' => Lib.run_eql_slice_nil w _ _ a n c n' c' Try.underlying22
  go_enter Try.func39, Try.ntmps39
  rcases a with _ | ad
  · have hl := h.1
    have hn0 : n = 0 := by
      by_cases h0 : n = 0
      · exact h0
      · obtain ⟨_, _, h1, _⟩ := h.2.2.2.2.1 (by omega); cases h1
    subst hn0
    have hc0 := h.2.2.2.2.2 rfl
    subst hc0
    have hbs : bs = [] := List.eq_nil_of_length_eq_zero hl
    subst hbs
    go_wp2
    go_ret
    exact ⟨none, 0, rfl, World.ownsRow_nil _ _ _ _, Below.refl _ _⟩
  · have hb2 : Below w.heap.size w (w.alloc (.cells #[] 5)) := (Below.refl _ _).alloc (Nat.le_refl _) _
    have hR2 : (w.alloc (.cells #[] 5)).ownsRow w.heap.size 5 1 (.slice (some ⟨w.heap.size, 0, none⟩) 0 0) 0 (u8s []) := by
      have := World.ownsRow_made w #[] (base := w.heap.size) (e := 5) (size := 1) 0 (by simp) (by unfold maxLen; omega) (by simp)
      simpa [u8s] using this
    have hh := h.below (hb2.mono hB)
    go_wp2_with (at_builtin; refine wpList_ab rfl _ _ rfl w.heap.size _ 0 [] rfl hR2 (some ad) n c bs _ _ rfl hh (by omega) hb2.size ?_; intro v3 w3 hO3' hg3; have hO3 : w3.ownsRow w.heap.size 5 1 v3 n (u8s bs) := (by rw [Nat.zero_add, List.nil_append] at hO3'; exact hO3'); obtain ⟨a3, c3, rfl⟩ := own_shape hO3; clear hO3')
    have hb3 := hb2.grown hg3 hb2.size (fun g e => (hR2.lt g e).1)
    go_ret
    exact ⟨a3, c3, rfl, hO3, hb3⟩
/-- The state inside copyDisk's first loop. -/
structure CFt (w X : World) (cp fu : Int) (de : Bool) (sa sb v : Value) (fs : List PF) (xs vs : List Value) : Prop where
  d : X.heap[w.heap.size]? = some (.cells #[sa, sb, .int .i64 cp, .int .i64 fu, .bool de] 26)
  r : X.heap[w.heap.size + 1]? = some (.cells #[.slice none 0 0, .slice none 0 0, .int .i64 0, .int .i64 0, .bool false] 26)
  o : X.heap[w.heap.size + 1 + 1]? = some (.cells #[v, sb, .int .i64 cp, .int .i64 fu, .bool de] 26)
  files : OwnF X (w.heap.size + 3) v fs xs vs
  bel : Below w.heap.size w X
theorem CFt.lt {w X : World} {cp fu : Int} {de : Bool} {sa sb v : Value} {fs : List PF} {xs vs : List Value} (h : CFt w X cp fu de sa sb v fs xs vs) : w.heap.size + 1 + 1 < X.heap.size := (Array.getElem?_eq_some_iff.1 h.o).1
theorem CFt.below {w X X' : World} {cp fu : Int} {de : Bool} {sa sb v : Value} {fs : List PF} {xs vs : List Value} (h : CFt w X cp fu de sa sb v fs xs vs) (hb : Below X.heap.size X X') : CFt w X' cp fu de sa sb v fs xs vs := by
  have hl := h.lt
  exact ⟨(hb.block _ (by omega)).trans h.d, (hb.block _ (by omega)).trans h.r, (hb.block _ hl).trans h.o, h.files.below hb, h.bel.trans (hb.mono h.bel.size)⟩
theorem CFt.push {w X X1 X2 X3 : World} {cp fu : Int} {de : Bool} {sa sb v v' vb : Value} {fs : List PF} {xs vs : List Value} {f : PF} (h : CFt w X cp fu de sa sb v fs xs vs) (hb : Below X.heap.size X X1)
    (hvb : X1.ownsRow X.heap.size 5 1 vb f.2.length (u8s f.2)) (hs : f.1.size ≤ maxLen) (hby : ∀ x ∈ f.2, 0 ≤ x ∧ x ≤ 255) (hb2 : Below X1.heap.size X1 X2)
    (hrow : X3.ownsRow (w.heap.size + 3) 92 2 v' (fs.length + 1) (xs ++ [.string f.1, vb])) (hgr : X2.grownBy X3 v.ownBlock) :
    CFt w (X3.setCell ⟨w.heap.size + 1 + 1, 0, none⟩ v') cp fu de sa sb v' (fs ++ [f]) (xs ++ [.string f.1, vb]) (vs ++ [vb]) := by
  have hl := h.lt
  have hs1 := hb.size
  have hs2 := hb2.size
  have h2 := (h.below hb).below hb2
  have hF : Fr (fun g => v.ownBlock = some g) X2 X3 := Fr.of_grown hgr (fun g e => e)
  have hub : ∀ g, v.ownBlock = some g → w.heap.size + 3 ≤ g := fun g e => (h.files.row.lt g e).1
  have hpush := OwnF.push h.files (by omega) hb hvb hs hby hb2 hrow hgr
  have hset := fr_setCell X3 (w.heap.size + 1 + 1) 0 v'
  have ho3 : X3.heap[w.heap.size + 1 + 1]? = _ := (hF.block _ (by omega) (fun e => by have := hub _ e; omega)).trans h2.o
  exact ⟨(hset.block _ (by have := hF.size; omega) (by omega)).trans ((hF.block _ (by omega) (fun e => by have := hub _ e; omega)).trans h2.d), (hset.block _ (by have := hF.size; omega) (by omega)).trans ((hF.block _ (by omega) (fun e => by have := hub _ e; omega)).trans h2.r), by simpa using heap_setCell_at ho3 0 v', hpush.fr hset (fun g hg e => by have := (hpush.blk hg).1; omega), (h2.bel.trans (hF.below (by have := h2.bel.size; omega) (fun g e => by have := hub g e; omega))).trans (hset.below (by have := hF.size; have := h2.bel.size; omega) (fun g e => by omega))⟩
/-- From the first loop to the second: own.Cache is nil. -/
theorem CFt.turn {w X : World} {cp fu : Int} {de : Bool} {sa sb v : Value} {fs : List PF} {xs vs : List Value} (h : CFt w X cp fu de sa sb v fs xs vs) : CSt w (X.setCell ⟨w.heap.size + 1 + 1, 1, none⟩ (.slice none 0 0)) cp fu de sa sb v (.slice none 0 0) fs xs vs [] [] [] := by
  have hl := h.lt
  have hset := fr_setCell X (w.heap.size + 1 + 1) 1 (.slice none 0 0)
  refine ⟨(hset.block _ (by omega) (by omega)).trans h.d, (hset.block _ (by omega) (by omega)).trans h.r, by simpa using heap_setCell_at h.o 1 (.slice none 0 0), h.files.fr hset (fun g hg e => by have := (h.files.blk hg).1; omega), OwnP.nil (World.ownsRow_nil _ _ _ _), ?_, h.bel.trans (hset.below (by omega) (fun g e => by omega))⟩
  intro g hg hg2
  rcases hg2 with e | ⟨j, hj, e⟩
  · simp [Value.ownBlock] at e
  · cases hj
end Go.Proofs.Ytakdaandbdbdnaa
namespace Go.Proofs.Ytakdaandbdbdnaa
open Go.RowKit
set_option linter.unusedVariables false
set_option maxRecDepth 100000

set_option maxHeartbeats 800000 in
theorem l1Live_any (a : Option Addr) (n c : Nat) (fs : List PF) (b : Option Addr) (m d : Nat) (ps : List PP) (cp fu : Int) (de : Bool) (w : World) (A B : Nat) (hB : B ≤ w.heap.size) (hF : FilesAt w A B a n c fs) (hP : PendsAt w A B b m d ps)
    (hall : ∀ j, j < n → (fs.getD j (ByteArray.empty, [])).2.length ≤ 1048576) :
    Calls Try.prog 40 #[.agg #[.slice a n c, .slice b m d, .int .i64 cp, .int .i64 fu, .bool de]] w fun e w' => e = .returned (.bool (specV fs ps cp fu && !de)) ∧ Below w.heap.size w w' := by
  have hb0 : Below w.heap.size w (w.alloc (.cells #[.slice a n c, .slice b m d, .int .i64 cp, .int .i64 fu, .bool de] 26)) := (Below.refl _ _).alloc (Nat.le_refl _) _
  have k0 := heap_alloc_new w (.cells #[.slice a n c, .slice b m d, .int .i64 cp, .int .i64 fu, .bool de] 26)
  have HC : Hid (Calls Try.prog 56 #[.agg #[.slice a n c, .slice b m d, .int .i64 cp, .int .i64 fu, .bool de]] (w.alloc (.cells #[.slice a n c, .slice b m d, .int .i64 cp, .int .i64 fu, .bool de] 26)) fun e w' => e = .returned (.bool (specV fs ps cp fu)) ∧ Below (w.alloc (.cells #[.slice a n c, .slice b m d, .int .i64 cp, .int .i64 fu, .bool de] 26)).heap.size (w.alloc (.cells #[.slice a n c, .slice b m d, .int .i64 cp, .int .i64 fu, .bool de] 26)) w') := specValid_any a n c fs b m d ps cp fu de _ A B (by simp; omega) (hF.below (hb0.mono hB)) (hP.below (hb0.mono hB)) hall
  clear hF hP hall
  generalize specV fs ps cp fu = ok at HC
  go_enter Try.func40, Try.ntmps40
  go_wp2_with fail
  refine HC.out.mono ?_
  rintro e w1 ⟨rfl, hb1⟩
  have j0 := (hb1.block w.heap.size (by simp)).trans k0
  obtain ⟨p0, p1, p2, p3, p4⟩ := box_fiveC j0
  have hR : Below w.heap.size w w1 := hb0.trans (hb1.mono hb0.size)
  clear HC hb0 hb1 k0 j0
  cases ok
  · go_wp2
    go_ret
    exact ⟨rfl, hR⟩
  · go_wp2
    go_ret
    exact ⟨rfl, hR⟩
end Go.Proofs.Ytakdaandbdbdnaa
namespace Go.Proofs.Ytakdaandbdbdnaa
open Go.RowKit Go.Maps
set_option linter.unusedVariables false
set_option maxRecDepth 100000

def CSRes (w w' : World) (fs : List PF) (ps : List PP) (cp fu : Int) (r : Option Nat) (t : Int) (ok : Bool) : Prop :=
  ok = implV fs ps cp fu ∧ Below w.heap.size w w' ∧ (ok = true → t = totalI (lastF ps fs) ∧ ∃ mb k D, r = some mb ∧ w.heap.size ≤ mb ∧ MapAt w' mb k D ∧ Rep D (lastF ps fs))
theorem inv_all {fs : List PF} (h : filesOk fs = true) : Inv fs := by
  have h2 : ∀ i, i < fs.length → fileOk fs i = true := of_decide_eq_true h
  have := inv_of_ok (k := fs.length) (Nat.le_refl _) h2
  rwa [List.take_length] at this
theorem implV_head {fs : List PF} {ps : List PP} {cp fu : Int} (h : ¬ (0 ≤ cp ∧ cp ≤ 1000 ∧ -1 ≤ fu ∧ fu ≤ 1000000)) : false = implV fs ps cp fu := by simp [implV, h]

set_option maxHeartbeats 2000000 in
theorem countSeen_head (v0 v1 : Value) (cp fu : Int) (de : Bool) (w : World) (h : ¬ (0 ≤ cp ∧ cp ≤ 1000 ∧ -1 ≤ fu ∧ fu ≤ 1000000)) :
    Calls Try.prog 79 #[.agg #[v0, v1, .int .i64 cp, .int .i64 fu, .bool de]] w fun e w' => e = .returned (.tuple #[.agg #[.map none, .int .i64 0], .bool false]) ∧ Below w.heap.size w w' := by
  by_cases t1 : cp < 0
  · have s1 : decide (cp < 0) = true := by simp; omega
    clear h
    go_enter Try.func79, Try.ntmps79
    go_wp2
    exact bodyPost_ret (v := .tuple #[.agg #[.map none, .int .i64 0], .bool false]) (by simp [results, Try.results79, go_sem]) rfl ⟨rfl, ((Below.refl _ _).alloc (Nat.le_refl _) _).alloc (by simp) _⟩
  · have s1 : decide (cp < 0) = false := by simp; omega
    by_cases t2 : 1000 < cp
    · have s2 : decide ((1000 : Int) < cp) = true := by simp; omega
      clear h
      go_enter Try.func79, Try.ntmps79
      go_wp2
      exact bodyPost_ret (v := .tuple #[.agg #[.map none, .int .i64 0], .bool false]) (by simp [results, Try.results79, go_sem]) rfl ⟨rfl, ((Below.refl _ _).alloc (Nat.le_refl _) _).alloc (by simp) _⟩
    · have s2 : decide ((1000 : Int) < cp) = false := by simp; omega
      by_cases t3 : fu < -1
      · have s3 : decide (fu < -1) = true := by simp; omega
        clear h
        go_enter Try.func79, Try.ntmps79
        go_wp2
        exact bodyPost_ret (v := .tuple #[.agg #[.map none, .int .i64 0], .bool false]) (by simp [results, Try.results79, go_sem]) rfl ⟨rfl, ((Below.refl _ _).alloc (Nat.le_refl _) _).alloc (by simp) _⟩
      · have s3 : decide (fu < -1) = false := by simp; omega
        have s4 : decide ((1000000 : Int) < fu) = true := by simp; omega
        clear h
        go_enter Try.func79, Try.ntmps79
        go_wp2
        exact bodyPost_ret (v := .tuple #[.agg #[.map none, .int .i64 0], .bool false]) (by simp [results, Try.results79, go_sem]) rfl ⟨rfl, ((Below.refl _ _).alloc (Nat.le_refl _) _).alloc (by simp) _⟩

set_option maxRecDepth 100000 in
set_option maxHeartbeats 2000000 in
theorem countSeen_main (a : Option Addr) (n c : Nat) (fs : List PF) (b : Option Addr) (m d : Nat) (ps : List PP) (cp fu : Int) (de : Bool) (w : World) (A B : Nat) (hB : B ≤ w.heap.size) (hF : FilesAt w A B a n c fs) (hP : PendsAt w A B b m d ps)
    (hall : ∀ j, j < n → (fs.getD j (ByteArray.empty, [])).2.length ≤ 1048576) (h : 0 ≤ cp ∧ cp ≤ 1000 ∧ -1 ≤ fu ∧ fu ≤ 1000000) :
    Calls Try.prog 79 #[.agg #[.slice a n c, .slice b m d, .int .i64 cp, .int .i64 fu, .bool de]] w fun e w' => ∃ (r : Option Nat) (t : Int) (ok : Bool), e = .returned (.tuple #[.agg #[.map r, .int .i64 t], .bool ok]) ∧ CSRes w w' fs ps cp fu r t ok := by
  obtain ⟨h1, h2, h3, h4⟩ := h
  have s1 : decide (cp < 0) = false := by simp; omega
  have s2 : decide ((1000 : Int) < cp) = false := by simp; omega
  have s3 : decide (fu < -1) = false := by simp; omega
  have s4 : decide ((1000000 : Int) < fu) = false := by simp; omega
  have hb0 : Below w.heap.size w ((w.alloc (.cells #[.slice a n c, .slice b m d, .int .i64 cp, .int .i64 fu, .bool de] 26)).alloc (.cells #[.map none, .int .i64 0] 113)) := ((Below.refl _ _).alloc (Nat.le_refl _) _).alloc (by simp) _
  have hfl := hF.1
  have HIV : Hid (implV fs ps cp fu = (decide (fs.length ≤ 12) && filesOk fs && (decide (ps.length ≤ 1000) && cacheI cp ps fs))) := by
    show _ = _
    unfold implV
    rw [show decide (0 ≤ cp ∧ cp ≤ 1000 ∧ -1 ≤ fu ∧ fu ≤ 1000000) = true from decide_eq_true ⟨h1, h2, h3, h4⟩]
    simp [Bool.and_assoc]
  go_enter Try.func79, Try.ntmps79
  go_wp2_with fail
  clear s1 s2 s3 s4
  refine (countFiles_any _ _ _ fs _ A B (by simp; omega) (hF.below (hb0.mono hB)) hall).mono ?_
  rintro e w1 ⟨mb, t, ok, rfl, hok, hmb, hyes, hb1⟩
  simp at hmb
  have hz := hb1.size
  simp at hz
  have hz1 : w.heap.size < w1.heap.size := by omega
  have hz2 : w.heap.size + 1 < w1.heap.size := by omega
  obtain ⟨hc1, hf1⟩ := bcell hb1
  have hbel1 := hb0.trans (hb1.mono (by simp; omega))
  cases ok with
  | false =>
    have HB : Hid (false = implV fs ps cp fu) := by show _ = _; rw [HIV.out, ← hok]; simp
    clear hyes hok hb1
    go_wp2_with fail
    exact bodyPost_ret (v := .tuple #[.agg #[.map none, .int .i64 0], .bool false]) (by simp [results, Try.results79, go_sem, hc1, hz2]) rfl ⟨none, 0, false, rfl, HB.out, ((hbel1.setCell (by simp) _).setCell (by simp) _).alloc (by simp; omega) _, fun h => by cases h⟩
  | true =>
    obtain ⟨ht, D, hM, hR⟩ := hyes rfl
    subst ht
    simp only [Bool.true_eq, Bool.and_eq_true, decide_eq_true_eq] at hok
    have hI := inv_all hok.2
    have htot : totalI fs ≤ 1073741824 := by
      have := totalI_small (fs := fs) (K := 1048576) (fun j hj => hall j (by omega))
      have h12 : ((fs.length : Int)) ≤ 12 := by omega
      omega
    have HIV2 : Hid (implV fs ps cp fu = (decide (ps.length ≤ 1000) && pendsOk ps fs && fitsB cp (lastF ps fs))) := by
      show _ = _
      rw [HIV.out, cacheI_eq, hok.2, show decide (fs.length ≤ 12) = true by simp; omega]
      simp [Bool.and_assoc]
    have hb2 : Below w1.heap.size w1 (w1.alloc (.cells #[.map (some mb), .int .i64 (totalI fs)] 113)) := (Below.refl _ _).alloc (Nat.le_refl _) _
    have hbel2 : Below w.heap.size w (w1.alloc (.cells #[.map (some mb), .int .i64 (totalI fs)] 113)) := hbel1.alloc (by omega) _
    have hk0 : fs.length ≤ 1048576 := by omega
    have HN0 : Hid (w1.heap[w.heap.size]? = some (.cells #[.slice a n c, .slice b m d, .int .i64 cp, .int .i64 fu, .bool de] 26)) := by
      show _ = _
      rw [hb1.block _ (by simp; omega), Below.heap_alloc _ _ _ (by simp)]; exact heap_alloc_new w _
    have HN1 : Hid (w1.heap[w.heap.size + 1]? = some (.cells #[.map none, .int .i64 0] 113)) := by
      show _ = _
      rw [hb1.block _ (by simp)]
      have := heap_alloc_new (w.alloc (.cells #[.slice a n c, .slice b m d, .int .i64 cp, .int .i64 fu, .bool de] 26)) (.cells #[.map none, .int .i64 0] 113)
      simpa using this
    clear hyes hok hb1
    go_wp2_with fail
    refine (countCache_any _ _ _ ps fs _ A B (w.heap.size + 1 + 1) w1.heap.size mb fs.length D (hP.below (hbel2.mono hB)) (by omega) (by simp; omega) (by omega) (by omega) (heap_alloc_new w1 _) (hM.keep (hb2.block _ hM.lt)) hR hI hk0 htot).mono ?_
    rintro e w3 ⟨ok2, rfl, hok2, hT, hyes2⟩
    have hz3 := hT.size
    simp at hz3
    have hml := hM.lt
    have HN03 : w3.heap[w.heap.size]? = some (.cells #[.slice a n c, .slice b m d, .int .i64 cp, .int .i64 fu, .bool de] 26) := (hT.block _ (by simp; omega) (by omega) (by omega)).trans ((hb2.block _ hz1).trans HN0.out)
    have HN13 : w3.heap[w.heap.size + 1]? = some (.cells #[.map none, .int .i64 0] 113) := (hT.block _ (by simp; omega) (by omega) (by omega)).trans ((hb2.block _ hz2).trans HN1.out)
    obtain ⟨y0, y1, y2⟩ := box_cells HN03
    obtain ⟨⟨r0, r1⟩, fr0, fr1⟩ := two_cells HN13
    have hbel3 : Below w.heap.size w w3 := hbel2.trans (hT.below (by simp; omega) (by omega) (by omega))
    clear HN03 HN13 hT hM hR hI hc1 hf1 HN0 HN1 hb2 hbel2 hbel1
    cases ok2 with
    | false =>
      have HB : Hid (false = implV fs ps cp fu) := by show _ = _; rw [HIV2.out, ← hok2]; simp
      clear hyes2 hok2
      generalize totalI fs = tt at *
      go_wp2_with fail
      exact bodyPost_ret (v := .tuple #[.agg #[.map none, .int .i64 0], .bool false]) (by simp [results, Try.results79, go_sem, r0, r1]) rfl ⟨none, 0, false, rfl, HB.out, (hbel3.setCell (by simp) _).setCell (by simp) _, fun h => by cases h⟩
    | true =>
      obtain ⟨hc3, D3, hM3, hR3⟩ := hyes2 rfl
      obtain ⟨⟨q0, q1⟩, _, _⟩ := two_cells hc3
      have hM3' : w3.ownsMap Try.prog 9 (plainElem Try.prog 2) mb (fs.length + ps.length) D3 := hM3
      have hsz := hR3.size_
      have HIV3 : Hid (implV fs ps cp fu = (decide (Maps.size D3 ≤ 12) && decide (totalI (lastF ps fs) ≤ cp))) := by
        show _ = _
        rw [HIV2.out, ← hok2, hsz]; simp [fitsB]
      have HT3 : Hid (totalI (lastF ps fs) = totalI (lastF ps fs)) := rfl
      have hmap := hM3.lt
      clear hyes2 hok2 hc3 hsz
      obtain ⟨T, hTe⟩ : ∃ T, T = totalI (lastF ps fs) := ⟨_, rfl⟩
      rw [← hTe] at q1 HIV3
      have HTE : Hid (T = totalI (lastF ps fs)) := hTe
      clear hTe HT3
      generalize totalI fs = tt at *
      obtain ⟨z, hze⟩ : ∃ z, z = Maps.size D3 := ⟨_, rfl⟩
      rw [← hze] at HIV3
      have HZ : Hid (Maps.size D3 = z) := hze.symm
      clear hze
      have hlen := hM3'.len Try.underlying111 3
      rw [HZ.out] at hlen
      by_cases t5 : 12 < z
      · have s5 : decide ((12 : Int) < (z : Int)) = true := by simp; omega
        have HB : Hid (false = implV fs ps cp fu) := by show _ = _; rw [HIV3.out, show decide (z ≤ 12) = false by simp; omega]; simp
        go_wp2_with fail
        exact bodyPost_ret (v := .tuple #[.agg #[.map none, .int .i64 0], .bool false]) (by simp [results, Try.results79, go_sem, r0, r1]) rfl ⟨none, 0, false, rfl, HB.out, (hbel3.setCell (by simp) _).setCell (by simp) _, fun h => by cases h⟩
      · have s5 : decide ((12 : Int) < (z : Int)) = false := by simp; omega
        by_cases t6 : cp < T
        · have s6 : decide (cp < T) = true := by simp; omega
          have HB : Hid (false = implV fs ps cp fu) := by show _ = _; rw [HIV3.out, show decide (T ≤ cp) = false by simp; omega]; simp
          go_wp2_with fail
          exact bodyPost_ret (v := .tuple #[.agg #[.map none, .int .i64 0], .bool false]) (by simp [results, Try.results79, go_sem, r0, r1]) rfl ⟨none, 0, false, rfl, HB.out, (hbel3.setCell (by simp) _).setCell (by simp) _, fun h => by cases h⟩
        · have s6 : decide (cp < T) = false := by simp; omega
          have HB : Hid (true = implV fs ps cp fu) := by show _ = _; rw [HIV3.out, show decide (T ≤ cp) = true by simp; omega, show decide (z ≤ 12) = true by simp; omega]; rfl
          go_wp2_with fail
          refine bodyPost_ret (v := .tuple #[.agg #[.map (some mb), .int .i64 T], .bool true]) (by simp [results, Try.results79, go_sem, r0, r1]) rfl ⟨some mb, T, true, rfl, HB.out, (hbel3.setCell (by simp) _).setCell (by simp) _, fun _ => ⟨HTE.out, mb, fs.length + ps.length, D3, rfl, by omega, ?_, hR3⟩⟩
          refine hM3.keep ?_
          rw [Below.heap_setCell _ _ _ _ (by show mb ≠ w.heap.size + 1; omega), Below.heap_setCell _ _ _ _ (by show mb ≠ w.heap.size + 1; omega)]

theorem countSeen_any (a : Option Addr) (n c : Nat) (fs : List PF) (b : Option Addr) (m d : Nat) (ps : List PP) (cp fu : Int) (de : Bool) (w : World) (A B : Nat) (hB : B ≤ w.heap.size) (hF : FilesAt w A B a n c fs) (hP : PendsAt w A B b m d ps)
    (hall : ∀ j, j < n → (fs.getD j (ByteArray.empty, [])).2.length ≤ 1048576) :
    Calls Try.prog 79 #[.agg #[.slice a n c, .slice b m d, .int .i64 cp, .int .i64 fu, .bool de]] w fun e w' => ∃ (r : Option Nat) (t : Int) (ok : Bool), e = .returned (.tuple #[.agg #[.map r, .int .i64 t], .bool ok]) ∧ CSRes w w' fs ps cp fu r t ok := by
  by_cases h : 0 ≤ cp ∧ cp ≤ 1000 ∧ -1 ≤ fu ∧ fu ≤ 1000000
  · exact countSeen_main a n c fs b m d ps cp fu de w A B hB hF hP hall h
  · refine (countSeen_head _ _ cp fu de w h).mono ?_
    rintro e w' ⟨rfl, hb⟩
    exact ⟨none, 0, false, rfl, implV_head h, hb, fun h => by cases h⟩

set_option maxHeartbeats 400000 in
theorem implValid_any (a : Option Addr) (n c : Nat) (fs : List PF) (b : Option Addr) (m d : Nat) (ps : List PP) (cp fu : Int) (de : Bool) (w : World) (A B : Nat) (hB : B ≤ w.heap.size) (hF : FilesAt w A B a n c fs) (hP : PendsAt w A B b m d ps)
    (hall : ∀ j, j < n → (fs.getD j (ByteArray.empty, [])).2.length ≤ 1048576) :
    Calls Try.prog 49 #[.agg #[.slice a n c, .slice b m d, .int .i64 cp, .int .i64 fu, .bool de]] w fun e w' => e = .returned (.bool (implV fs ps cp fu)) ∧ Below w.heap.size w w' := by
  have hb0 : Below w.heap.size w (w.alloc (.cells #[.slice a n c, .slice b m d, .int .i64 cp, .int .i64 fu, .bool de] 26)) := (Below.refl _ _).alloc (Nat.le_refl _) _
  go_enter Try.func49, Try.ntmps49
  go_wp2_with fail
  refine (countSeen_any _ _ _ fs _ _ _ ps _ _ _ _ A B (by simp; omega) (hF.below (hb0.mono hB)) (hP.below (hb0.mono hB)) hall).mono ?_
  rintro e w1 ⟨r, t, ok, rfl, hok, hb1, _⟩
  have hb2 := hb0.trans (hb1.mono (by simp))
  have hz := hb1.size
  simp at hz
  have HO : Hid (ok = implV fs ps cp fu) := hok
  clear hok hb1
  go_wp2_with fail
  go_ret
  exact ⟨by rw [← HO.out]; rfl, hb2.alloc (by omega) _⟩
end Go.Proofs.Ytakdaandbdbdnaa
namespace Go.Proofs.Ytakdaandbdbdnaa
open Go.RowKit Go.Maps
set_option linter.unusedVariables false
set_option maxRecDepth 100000

/-- A map's bound may be its size. -/
theorem MapAt.tight {w : World} {mb k : Nat} {D : DataW Unit} (h : MapAt w mb k D) : MapAt w mb (Maps.size D) D := by
  obtain ⟨es, clock, hb, F, _, rfl⟩ := h
  exact ⟨es, clock, hb, F, by simp [Maps.size, length_sorted], rfl⟩

/-- What the program says to a write: 0, 1 or 2. -/
def rwI (fs : List PF) (ps : List PP) (cp fu : Int) (de : Bool) (nm : ByteArray) (pg : Int) (bs : List Int) : Int :=
  if implV fs ps cp fu = true ∧ de = false ∧ nameB nm = true ∧ bs.length = 128 then
    (if pg < 0 ∨ lenI (lastF ps fs) nm < pg then 1 else if ps.length = 1000 ∨ 12 < (doP (lastF ps fs) nm pg.toNat bs).length ∨ cp < totalI (doP (lastF ps fs) nm pg.toNat bs) then 2 else 0)
  else 1
theorem inv_lastW : ∀ (ps : List PP) (fs : List PF), Inv fs → Inv (lastF ps fs)
  | [], _, h => h
  | p :: r, fs, h => by
    simp only [lastF]
    exact inv_lastW r _ (doP_inv h)
theorem boxW5 {wr : World} {N : Nat} {v0 v1 v2 v3 v4 : Value} {t : TypeId} (h : wr.heap[N]? = some (.cells #[v0, v1, v2, v3, v4] t)) : wr.cell? ⟨N, 0, none⟩ = some v0 ∧ wr.cell? ⟨N, 1, none⟩ = some v1 ∧ wr.cell? ⟨N, 2, none⟩ = some v2 ∧ wr.cell? ⟨N, 3, none⟩ = some v3 ∧ wr.cell? ⟨N, 4, none⟩ = some v4 := by
  refine ⟨?_, ?_, ?_, ?_, ?_⟩
  · rw [cell_of_row wr N 0 _ _ _ h]; rfl
  · rw [cell_of_row wr N 1 _ _ _ h]; rfl
  · rw [cell_of_row wr N 2 _ _ _ h]; rfl
  · rw [cell_of_row wr N 3 _ _ _ h]; rfl
  · rw [cell_of_row wr N 4 _ _ _ h]; rfl
theorem cacheI_lastW {cp : Int} : ∀ (ps : List PP) (fs : List PF), cacheI cp ps fs = true → fitsB cp (lastF ps fs) = true
  | [], fs, h => by simpa [cacheI, lastF] using h
  | p :: r, fs, h => by
    simp only [cacheI, Bool.and_eq_true] at h
    simp only [lastF]
    exact cacheI_lastW r _ h.2
/-- Where the disk is good, what is seen fits. -/
theorem specV_partsW {fs : List PF} {ps : List PP} {cp fu : Int} (h : true = implV fs ps cp fu) : cp ≤ 1000 ∧ (lastF ps fs).length ≤ 12 ∧ totalI (lastF ps fs) ≤ cp := by
  simp only [implV, Bool.true_eq, Bool.and_eq_true, decide_eq_true_eq] at h
  have h2 := cacheI_lastW ps fs h.2
  simp only [fitsB, Bool.and_eq_true, decide_eq_true_eq] at h2
  exact ⟨h.1.1.1.1.2.1, h2.1, h2.2⟩
theorem retW {x y : Int} (h : x = y) : (Ending.returned (.int .i64 x)) = .returned (.int .i64 y) := by rw [h]
set_option maxHeartbeats 1600000 in
theorem refuseWrite_any (a : Option Addr) (n c : Nat) (fs : List PF) (b : Option Addr) (m d : Nat) (ps : List PP) (cp fu : Int) (de : Bool) (nm : ByteArray) (pg : Int) (pa : Option Addr) (pn pc : Nat) (bs : List Int) (w : World) (A B : Nat) (hB : B ≤ w.heap.size) (hF : FilesAt w A B a n c fs) (hP : PendsAt w A B b m d ps) (hs : nm.size ≤ maxLen) (hbl : bs.length = pn)
    (hall : ∀ j, j < n → (fs.getD j (ByteArray.empty, [])).2.length ≤ 1048576) :
    Calls Try.prog 37 #[.agg #[.slice a n c, .slice b m d, .int .i64 cp, .int .i64 fu, .bool de], .string nm, .int .i64 pg, .slice pa pn pc] w fun e w' => e = .returned (.int .i64 (rwI fs ps cp fu de nm pg bs)) ∧ Below w.heap.size w w' := by
  have hb0 : Below w.heap.size w (w.alloc (.cells #[.slice a n c, .slice b m d, .int .i64 cp, .int .i64 fu, .bool de] 26)) := (Below.refl _ _).alloc (Nat.le_refl _) _
  have hml : ps.length = m := hP.1
  have HBL : Hid (bs.length = pn) := hbl
  clear hbl
  go_enter Try.func37, Try.ntmps37
  go_wp2_with fail
  refine (countSeen_any _ _ _ fs _ _ _ ps _ _ _ _ A B (by simp; omega) (hF.below (hb0.mono hB)) (hP.below (hb0.mono hB)) hall).mono ?_
  rintro e w1 ⟨r, t, ok, rfl, hok, hb1, hyes⟩
  have hg1 := hb0.trans (hb1.mono (by simp))
  have hz1 : w.heap.size + 1 ≤ w1.heap.size := by simpa using hb1.size
  have hbx1 : Hid (w1.heap[w.heap.size]? = some (.cells #[.slice a n c, .slice b m d, .int .i64 cp, .int .i64 fu, .bool de] 26)) := (hb1.block _ (by simp)).trans (heap_alloc_new w _)
  have HOK : Hid (ok = implV fs ps cp fu) := hok
  have HY : Hid (ok = true → t = totalI (lastF ps fs) ∧ ∃ mb k D, r = some mb ∧ (w.alloc (.cells #[.slice a n c, .slice b m d, .int .i64 cp, .int .i64 fu, .bool de] 26)).heap.size ≤ mb ∧ MapAt w1 mb k D ∧ Rep D (lastF ps fs)) := hyes
  have HML : Hid (ps.length = m) := hml
  clear hok hyes hml
  have k0 := (Below.heap_alloc w1 (.cells #[.map r, .int .i64 t] 113) w.heap.size hz1).trans hbx1.out
  obtain ⟨x0, x1, x2, x3, x4⟩ := boxW5 k0
  have hg2 := hg1.alloc (o := .cells #[.map r, .int .i64 t] 113) (by omega)
  cases ok with
  | false =>
    have HR : Hid (rwI fs ps cp fu de nm pg bs = 1) := by show _ = _; unfold rwI; rw [← HOK.out]; simp
    clear k0 HOK HY
    go_wp2_with fail
    go_ret
    exact ⟨retW HR.out.symm, hg2⟩
  | true =>
    obtain ⟨ht, mb, k, D, rfl, hmb, hM0, hR⟩ := HY.out rfl
    have HT : Hid (t = totalI (lastF ps fs)) := ht
    clear ht
    have hM1 := hM0.tight
    rw [hR.size_] at hM1
    clear hM0
    have hmz : w.heap.size + 1 ≤ mb := by simpa using hmb
    clear hmb
    have hI : Inv (lastF ps fs) := by
      refine inv_lastW _ _ (inv_all ?_)
      have h2 := HOK.out
      simp only [implV, Bool.true_eq, Bool.and_eq_true] at h2
      exact h2.1.1.2
    have hl0 := lenI_le_total (lastF ps fs) nm
    have htb := totalI_bd (lastF ps fs)
    have hM := hM1.keep (Below.heap_alloc w1 (.cells #[.map (some mb), .int .i64 t] 113) _ hM1.lt)
    have hmlt := hM1.lt
    have hlk := look_at hM hR hs 0
    have hlk' : (Instr.lookup 111 (.map (some mb)) (.string nm) false).run Try.prog (w1.alloc (.cells #[.map (some mb), .int .i64 t] 113)) = .ok (.int .i64 (lenI (lastF ps fs) nm)) (w1.alloc (.cells #[.map (some mb), .int .i64 t] 113)) := hlk
    have KC : Hid ((w1.alloc (.cells #[.map (some mb), .int .i64 t] 113)).heap[w1.heap.size]? = some (.cells #[.map (some mb), .int .i64 t] 113)) := heap_alloc_new w1 _
    have HK0 : Hid ((w1.alloc (.cells #[.map (some mb), .int .i64 t] 113)).heap[w.heap.size]? = some (.cells #[.slice a n c, .slice b m d, .int .i64 cp, .int .i64 fu, .bool de] 26)) := k0
    clear HY hlk k0
    by_cases t0 : de = false ∧ nameB nm = true ∧ pn = 128
    · obtain ⟨rfl, tn, rfl⟩ := t0
      have HN : Hid (nameB nm = true) := tn
      have hwS := (specV_partsW (HOK.out))
      by_cases t1 : pg < 0
      · have HR : Hid (rwI fs ps cp fu false nm pg bs = 1) := by show _ = _; unfold rwI; rw [if_pos ⟨HOK.out.symm, rfl, tn, HBL.out⟩, if_pos (.inl t1)]
        have s1 : decide (pg < 0) = true := by simp; omega
        clear tn hlk' hM hM1 hR hI t1
        go_wp2_with fail
        refine (isName_any _ _ hs).mono ?_
        rintro e w2 ⟨rfl, rfl⟩
        rw [HN.out]
        go_wp2_with fail
        go_ret
        exact ⟨retW HR.out.symm, hg2⟩
      · have s1 : decide (pg < 0) = false := by simp; omega
        by_cases t2 : lenI (lastF ps fs) nm < pg
        · have HR : Hid (rwI fs ps cp fu false nm pg bs = 1) := by show _ = _; unfold rwI; rw [if_pos ⟨HOK.out.symm, rfl, tn, HBL.out⟩, if_pos (.inr t2)]
          have s2 : decide (lenI (lastF ps fs) nm < pg) = true := by simp; omega
          clear tn hM hM1 hR hI t1 t2
          generalize lenI (lastF ps fs) nm = ln at *
          go_wp2_with fail
          refine (isName_any _ _ hs).mono ?_
          rintro e w2 ⟨rfl, rfl⟩
          rw [HN.out]
          go_wp2_with fail
          go_ret
          exact ⟨retW HR.out.symm, hg2⟩
        · have s2 : decide (lenI (lastF ps fs) nm < pg) = false := by simp; omega
          obtain ⟨pgN, rfl⟩ := Int.eq_ofNat_of_zero_le (show 0 ≤ pg by omega)
          have HR : Hid (rwI fs ps cp fu false nm (pgN : Int) bs = if ps.length = 1000 ∨ 12 < (doP (lastF ps fs) nm pgN bs).length ∨ cp < totalI (doP (lastF ps fs) nm pgN bs) then 2 else 0) := by show _ = _; unfold rwI; rw [if_pos ⟨HOK.out.symm, rfl, tn, HBL.out⟩, if_neg (by omega), Int.toNat_natCast]
          have htot := doP_total2 (bs := bs) hI (show (pgN : Int) ≤ lenI (lastF ps fs) nm by omega)
          have hrp := Rep.pend (bs := bs) hR hI (show (pgN : Int) ≤ lenI (lastF ps fs) nm by omega)
          have HAT : Hid (D.atKey (keyL nm) (.lit (.int .i64 0)) = .lit (.int .i64 (lenI (lastF ps fs) nm))) := hR.at_ nm
          rw [HML.out] at HR
          by_cases t3 : (pgN : Int) = lenI (lastF ps fs) nm
          · have s3 : ((pgN : Int) == lenI (lastF ps fs) nm) = true := by simp [t3]
            rw [if_pos t3, ← HT.out] at htot
            have HTO : Hid (totalI (doP (lastF ps fs) nm pgN bs) = t + 1) := htot
            have HRP : Hid (Rep (D.put (keyL nm) (.lit (.int .i64 (lenI (lastF ps fs) nm + 1)))) (doP (lastF ps fs) nm pgN bs)) := hrp.1 t3
            rw [← HT.out] at hwS htb hl0
            clear hrp htot t3 hI hR t1 t2 tn HT
            generalize doP (lastF ps fs) nm pgN bs = G at *
            generalize lenI (lastF ps fs) nm = ln at *
            go_wp2_with fail
            refine (isName_any _ _ hs).mono ?_
            rintro e w2 ⟨rfl, rfl⟩
            rw [HN.out]
            go_wp2_with fail
            refine (add_any nm 1 ln t w1.heap.size mb _ D _ KC.out hM (by omega) HAT.out hs (by omega) (by omega) (by omega) (by omega) (by omega) (by omega)).mono ?_
            rintro e w3 ⟨rfl, hc3, hm3, ht3⟩
            have hB3 : Below w.heap.size w w3 := hg2.trans (ht3.below (by simp; omega) (by omega) (by omega))
            have k3 := (ht3.block w.heap.size (by simp; omega) (by omega) (by omega)).trans HK0.out
            have hlen := hm3.len Try.underlying111 3
            rw [HRP.out.size_] at hlen
            clear x0 x1 x2 x3 x4 hlk'
            obtain ⟨x0, x1, x2, x3, x4⟩ := boxW5 k3
            obtain ⟨⟨q0, q1⟩, _, _⟩ := two_cells hc3
            clear hc3 k3 hm3 ht3 hM hM1
            rw [HTO.out] at HR
            generalize hGl : G.length = gl at *
            have HGL : Hid (G.length = gl) := hGl
            clear hGl
            by_cases t5 : m = 1000
            · have u1 : ((m : Int) == 1000) = true := by simp; omega
              rw [if_pos (.inl t5)] at HR
              clear t5
              go_wp2_with fail
              go_ret
              exact ⟨retW HR.out.symm, hB3⟩
            · have u1 : ((m : Int) == 1000) = false := by simp; omega
              by_cases t6 : 12 < gl
              · have u2 : decide ((12 : Int) < (gl : Int)) = true := by simp; omega
                rw [if_pos (.inr (.inl t6))] at HR
                clear t5 t6
                go_wp2_with fail
                go_ret
                exact ⟨retW HR.out.symm, hB3⟩
              · have u2 : decide ((12 : Int) < (gl : Int)) = false := by simp; omega
                by_cases t7 : cp < (t + 1)
                · have u3 : decide (cp < (t + 1)) = true := by simp; omega
                  rw [if_pos (.inr (.inr t7))] at HR
                  clear t5 t6 t7
                  go_wp2_with fail
                  go_ret
                  exact ⟨retW HR.out.symm, hB3⟩
                · have u3 : decide (cp < (t + 1)) = false := by simp; omega
                  rw [if_neg (by omega)] at HR
                  clear t5 t6 t7
                  go_wp2_with fail
                  go_ret
                  exact ⟨retW HR.out.symm, hB3⟩
          · have s3 : ((pgN : Int) == lenI (lastF ps fs) nm) = false := by simp [t3]
            rw [if_neg t3, Int.add_zero, ← HT.out] at htot
            have HTO : Hid (totalI (doP (lastF ps fs) nm pgN bs) = t) := htot
            have HRP := hrp.2 t3
            have hB3 := hg2
            have hM' : (w1.alloc (.cells #[.map (some mb), .int .i64 t] 113)).ownsMap Try.prog 9 (plainElem Try.prog 2) mb _ D := hM
            have hlen := hM'.len Try.underlying111 3
            rw [HRP.size_] at hlen
            rw [HTO.out] at HR
            clear hrp htot hI hR t1 t2 tn HT HRP hM hM' hM1 HAT HTO
            generalize doP (lastF ps fs) nm pgN bs = G at *
            generalize lenI (lastF ps fs) nm = ln at *
            generalize hGl : G.length = gl at *
            have HGL : Hid (G.length = gl) := hGl
            clear hGl t3
            by_cases t5 : m = 1000
            · have u1 : ((m : Int) == 1000) = true := by simp; omega
              rw [if_pos (.inl t5)] at HR
              clear t5
              go_wp2_with fail
              refine (isName_any _ _ hs).mono ?_
              rintro e w2 ⟨rfl, rfl⟩
              rw [HN.out]
              go_wp2_with fail
              go_ret
              exact ⟨retW HR.out.symm, hB3⟩
            · have u1 : ((m : Int) == 1000) = false := by simp; omega
              by_cases t6 : 12 < gl
              · have u2 : decide ((12 : Int) < (gl : Int)) = true := by simp; omega
                rw [if_pos (.inr (.inl t6))] at HR
                clear t5 t6
                go_wp2_with fail
                refine (isName_any _ _ hs).mono ?_
                rintro e w2 ⟨rfl, rfl⟩
                rw [HN.out]
                go_wp2_with fail
                go_ret
                exact ⟨retW HR.out.symm, hB3⟩
              · have u2 : decide ((12 : Int) < (gl : Int)) = false := by simp; omega
                by_cases t7 : cp < t
                · have u3 : decide (cp < t) = true := by simp; omega
                  rw [if_pos (.inr (.inr t7))] at HR
                  clear t5 t6 t7
                  go_wp2_with fail
                  refine (isName_any _ _ hs).mono ?_
                  rintro e w2 ⟨rfl, rfl⟩
                  rw [HN.out]
                  go_wp2_with fail
                  go_ret
                  exact ⟨retW HR.out.symm, hB3⟩
                · have u3 : decide (cp < t) = false := by simp; omega
                  rw [if_neg (by omega)] at HR
                  clear t5 t6 t7
                  go_wp2_with fail
                  refine (isName_any _ _ hs).mono ?_
                  rintro e w2 ⟨rfl, rfl⟩
                  rw [HN.out]
                  go_wp2_with fail
                  go_ret
                  exact ⟨retW HR.out.symm, hB3⟩
    · have HR : Hid (rwI fs ps cp fu de nm pg bs = 1) := by show _ = _; unfold rwI; rw [HBL.out, if_neg (fun h => t0 ⟨h.2.1, h.2.2⟩)]
      have hT : de = true ∨ nameB nm = false ∨ pn ≠ 128 := by
        cases de with
        | true => exact .inl rfl
        | false => cases hn : nameB nm with
          | false => exact .inr (.inl rfl)
          | true => exact .inr (.inr (fun e => t0 ⟨rfl, hn, e⟩))
      clear t0 hlk' hM hM1 hR hI hl0 HT htb KC HK0 HOK
      rcases hT with rfl | hn | hp
      · go_wp2_with fail
        go_ret
        exact ⟨retW HR.out.symm, hg2⟩
      · have HN : Hid (nameB nm = false) := hn
        clear hn
        cases de with
        | true =>
          go_wp2_with fail
          go_ret
          exact ⟨retW HR.out.symm, hg2⟩
        | false =>
          go_wp2_with fail
          refine (isName_any _ _ hs).mono ?_
          rintro e w2 ⟨rfl, rfl⟩
          rw [HN.out]
          go_wp2_with fail
          go_ret
          exact ⟨retW HR.out.symm, hg2⟩
      · have s1 : ((pn : Int) == 128) = false := by simp; omega
        cases de with
        | true =>
          go_wp2_with fail
          go_ret
          exact ⟨retW HR.out.symm, hg2⟩
        | false =>
          go_wp2_with fail
          refine (isName_any _ _ hs).mono ?_
          rintro e w2 ⟨rfl, rfl⟩
          cases hn : nameB nm
          · go_wp2_with fail
            go_ret
            exact ⟨retW HR.out.symm, hg2⟩
          · go_wp2_with fail
            go_ret
            exact ⟨retW HR.out.symm, hg2⟩
end Go.Proofs.Ytakdaandbdbdnaa
namespace Go.Proofs.Ytakdaandbdbdnaa
open Go.RowKit Go.Maps
set_option linter.unusedVariables false
set_option maxRecDepth 100000

theorem lastF_snoc : ∀ (ps : List PP) (p : PP) (fs : List PF), lastF (ps ++ [p]) fs = stepP (lastF ps fs) p
  | [], p, fs => rfl
  | q :: r, p, fs => by simp only [List.cons_append, lastF]; exact lastF_snoc r p _
theorem pendsOk_snoc : ∀ (ps : List PP) (p : PP) (fs : List PF), pendsOk (ps ++ [p]) fs = (pendsOk ps fs && pendOk (lastF ps fs) p)
  | [], p, fs => by simp [pendsOk, lastF]
  | q :: r, p, fs => by simp only [List.cons_append, pendsOk, lastF]; rw [pendsOk_snoc r p _, Bool.and_assoc]
theorem cacheI_parts {cp : Int} {ps : List PP} {fs : List PF} (h : cacheI cp ps fs = true) : pendsOk ps fs = true ∧ fitsB cp (lastF ps fs) = true := by
  rw [cacheI_eq, Bool.and_eq_true] at h
  exact h
theorem implV_parts {fs : List PF} {ps : List PP} {cp fu : Int} (h : implV fs ps cp fu = true) : (0 ≤ cp ∧ cp ≤ 1000 ∧ -1 ≤ fu ∧ fu ≤ 1000000) ∧ fs.length ≤ 12 ∧ filesOk fs = true ∧ ps.length ≤ 1000 ∧ cacheI cp ps fs = true := by
  simp only [implV, Bool.and_eq_true, decide_eq_true_eq] at h
  exact ⟨h.1.1.1.1, h.1.1.1.2, h.1.1.2, h.1.2, h.2⟩
/-- A write that was taken leaves the disk valid. -/
theorem valid_write {fs : List PF} {ps : List PP} {cp fu : Int} {de : Bool} {nm : ByteArray} {pg : Int} {bs : List Int} (h : rwI fs ps cp fu de nm pg bs = 0) : implV fs (ps ++ [(nm, pg, bs)]) cp (-1) = true ∧ de = false ∧ implV fs ps cp fu = true ∧ bs.length = 128 ∧ 0 ≤ pg ∧ pg ≤ lenI (lastF ps fs) nm ∧ nameB nm = true := by
  unfold rwI at h
  split at h
  · rename_i hc
    split at h
    · cases h
    · rename_i h2
      split at h
      · cases h
      · rename_i h3
        obtain ⟨q1, q2, q3, q4, q5⟩ := implV_parts hc.1
        obtain ⟨t1, t2⟩ := cacheI_parts q5
        have hpg : 0 ≤ pg ∧ pg ≤ lenI (lastF ps fs) nm := by omega
        refine ⟨?_, hc.2.1, hc.1, hc.2.2.2, hpg.1, hpg.2, hc.2.2.1⟩
        simp only [implV, Bool.and_eq_true, decide_eq_true_eq]
        refine ⟨⟨⟨⟨⟨q1.1, q1.2.1, by omega, by omega⟩, q2⟩, q3⟩, by simp; omega⟩, ?_⟩
        rw [cacheI_eq, lastF_snoc, pendsOk_snoc, t1]
        simp only [Bool.true_and, Bool.and_eq_true, pendOk, fitsB, stepP, decide_eq_true_eq, beq_iff_eq]
        refine ⟨⟨⟨hc.2.2.1, hc.2.2.2⟩, hpg⟩, ?_, ?_⟩
        · exact decide_eq_true (by omega)
        · exact decide_eq_true (by omega)
  · cases h
theorem doP_nameB {fs : List PF} {nm : ByteArray} {pg : Nat} {bs : List Int} (h : ∀ f ∈ fs, nameB f.1 = true) (hn : nameB nm = true) : ∀ f ∈ doP fs nm pg bs, nameB f.1 = true := by
  intro f hf
  unfold doP at hf
  rcases List.mem_or_eq_of_mem_set hf with h1 | h1
  · unfold withName at h1
    split at h1
    · exact h f h1
    · rcases List.mem_append.1 h1 with h2 | h2
      · exact h f (List.mem_of_mem_take h2)
      · rcases List.mem_cons.1 h2 with h3 | h3
        · rw [h3]; exact hn
        · exact h f (List.mem_of_mem_drop h3)
  · rw [h1]; exact hn
theorem last_nameB : ∀ (ps : List PP) (fs : List PF), (∀ f ∈ fs, nameB f.1 = true) → pendsOk ps fs = true → ∀ f ∈ lastF ps fs, nameB f.1 = true
  | [], _, h, _ => h
  | p :: r, fs, h, hc => by
    simp only [pendsOk, pendOk, Bool.and_eq_true] at hc
    exact last_nameB r _ (doP_nameB h hc.1.1.1) hc.2
theorem less_of {x y : List UInt8} (h : x < y) : Op.bytesLess x y = true := by
  rw [bytesLess_eq]
  exact decide_eq_true h
theorem filesOk_of {L : List PF} (hs : SortedN L) (hI : Inv L) (hn : ∀ f ∈ L, nameB f.1 = true) : filesOk L = true := by
  refine filesOk_yes fun i hi => ?_
  have h1 := hI.pg i hi
  have h2 : nameB (L.getD i (ByteArray.empty, [])).1 = true := hn _ (by simp [List.getD, List.getElem?_eq_getElem hi])
  simp only [fileOk, Bool.and_eq_true, Bool.not_eq_true', beq_eq_false_iff_ne, ne_eq, beq_iff_eq, Bool.and_eq_false_iff, decide_eq_false_iff_not]
  refine ⟨⟨⟨h2, by omega⟩, h1.2⟩, ?_⟩
  by_cases h0 : 0 < i
  · right
    have h3 := List.pairwise_iff_getElem.1 hs (i - 1) i (by omega) hi (by omega)
    unfold geB
    rw [show (L.getD (i - 1) (ByteArray.empty, [])).1 = L[i - 1].1 by simp [List.getD, List.getElem?_eq_getElem (show i - 1 < L.length by omega)], show (L.getD i (ByteArray.empty, [])).1 = L[i].1 by simp [List.getD, List.getElem?_eq_getElem hi], less_of h3]
    rfl
  · exact .inl h0
/-- What is seen, made durable, is a valid disk. -/
theorem valid_sync {fs : List PF} {ps : List PP} {cp fu : Int} (h : implV fs ps cp fu = true) : implV (lastF ps fs) [] cp (-1) = true := by
  obtain ⟨q1, q2, q3, q4, q5⟩ := implV_parts h
  obtain ⟨t1, t2⟩ := cacheI_parts q5
  have t3 := t2
  simp only [fitsB, Bool.and_eq_true, decide_eq_true_eq] at t3
  have hI := inv_all q3
  have hs := sortedN_of_ok (of_decide_eq_true q3)
  have hnm : ∀ f ∈ fs, nameB f.1 = true := by
    intro f hf
    obtain ⟨i, hi, rfl⟩ := List.getElem_of_mem hf
    have h2 := of_decide_eq_true q3 i hi
    simp only [fileOk, Bool.and_eq_true] at h2
    have h3 := h2.1.1.1
    simpa [List.getD, List.getElem?_eq_getElem hi] using h3
  simp only [implV, Bool.and_eq_true, decide_eq_true_eq]
  refine ⟨⟨⟨⟨⟨q1.1, q1.2.1, by omega, by omega⟩, t3.1⟩, ?_⟩, by simp⟩, ?_⟩
  · exact filesOk_of (last_sorted ps fs hs) (inv_lastW ps fs hI) (last_nameB ps fs hnm t1)
  · simpa [cacheI] using t2
/-- A crash in which all writes are kept leaves what was seen. -/
theorem crF_all {ta : Int} {ks : List Bool} : ∀ (ps : List PP) (k : Nat) (fs : List PF), (∀ i, i < ps.length → ks.getD (k + i) false = true) → crF (-1) ta ks k ps fs = lastF ps fs
  | [], k, fs, h => rfl
  | p :: r, k, fs, h => by
    simp only [crF, crS, lastF]
    rw [if_neg (by omega), if_pos (by simpa using h 0 (by simp))]
    exact crF_all r (k + 1) _ (fun i hi => by have := h (i + 1) (by simpa using hi); rwa [show k + 1 + i = k + (i + 1) by omega])
/-- One in which none is kept, what was durable. -/
theorem crF_none {ta : Int} : ∀ (ps : List PP) (k : Nat) (fs : List PF), crF (-1) ta [] k ps fs = fs
  | [], k, fs => rfl
  | p :: r, k, fs => by
    simp only [crF, crS]
    rw [if_neg (by omega), if_neg (by simp)]
    exact crF_none r (k + 1) fs
end Go.Proofs.Ytakdaandbdbdnaa
namespace Go.Proofs.Ytakdaandbdbdnaa
open Go.RowKit Go.Maps
set_option linter.unusedVariables false
set_option maxRecDepth 100000

theorem files_byte {w : World} {A B : Nat} {a : Option Addr} {n c : Nat} {fs : List PF} (h : FilesAt w A B a n c fs) : ByteF fs := by
  obtain ⟨h1, h2, h3, h4⟩ := h
  intro nm x hx
  unfold dataN at hx
  by_cases hf : findN fs nm < fs.length
  · rw [if_pos hf] at hx
    obtain ⟨ab, aoff, _, _, hcb⟩ := h4 (by omega)
    obtain ⟨p1, p2, pa, pn, pc, p3, p4⟩ := hcb (findN fs nm) (by omega)
    exact p4.2.2.2.1 x hx
  · rw [if_neg hf] at hx; cases hx
set_option maxHeartbeats 3200000 in
theorem see_any (a : Option Addr) (n c : Nat) (fs : List PF) (b : Option Addr) (m d : Nat) (ps : List PP) (cp fu : Int) (de : Bool) (w : World) (A B : Nat) (hB : B ≤ w.heap.size) (hF : FilesAt w A B a n c fs) (hP : PendsAt w A B b m d ps)
    (hn : n ≤ 12) (hm : m ≤ 1000) (hcp : cp ≤ 1000) (htot : totalI fs ≤ cp) (hca : cacheS cp ps fs = true) (hI : Inv fs) :
    Calls Try.prog 55 #[.agg #[.slice a n c, .slice b m d, .int .i64 cp, .int .i64 fu, .bool de]] w fun e w' => ∃ (mb q : Nat) (D : DataW Unit), e = .returned (.map (some mb)) ∧ w.heap.size ≤ mb ∧ MapS w' mb q D ∧ q ≤ 2097152 ∧ RepS D (pageOf (lastF ps fs)) ∧ ByteF (lastF ps fs) ∧ Inv (lastF ps fs) ∧ Below w.heap.size w w' := by
  have hb0 : Below w.heap.size w (w.alloc (.cells #[.slice a n c, .slice b m d, .int .i64 cp, .int .i64 fu, .bool de] 26)) := (Below.refl _ _).alloc (Nat.le_refl _) _
  have k0 := heap_alloc_new w (.cells #[.slice a n c, .slice b m d, .int .i64 cp, .int .i64 fu, .bool de] 26)
  have hsm := small_of_total (fs := fs) (by omega)
  have hfl := hF.1
  have HBY : Hid (ByteF fs) := files_byte hF
  have HI : Hid (Inv fs) := hI
  have HCA : Hid (cacheS cp ps fs = true) := hca
  go_enter Try.func55, Try.ntmps55
  go_wp2_with fail
  refine (durable_any a n c fs b m d ps cp fu de _ A B (by simp; omega) (hF.below (hb0.mono hB)) (by omega) hI hn (fun j hj => Nat.le_trans (hsm j (by omega)) (by omega))).mono ?_
  rintro e w1 ⟨mb, q1, D1, rfl, hmb1, hM1, hq1, hR1, hb1⟩
  have hmb : w.heap.size < mb := by simp at hmb1; omega
  have F1 : Hid (Below w.heap.size w w1) := hb0.trans (hb1.mono (by simp))
  have hz1 : w.heap.size < w1.heap.size := by have := hb1.size; simp at this; omega
  have hbx1 : w1.heap[w.heap.size]? = some (.cells #[.slice a n c, .slice b m d, .int .i64 cp, .int .i64 fu, .bool de] 26) := (hb1.block _ (by simp)).trans k0
  have HBX : Hid (w1.heap[w.heap.size]? = some (.cells #[.slice a n c, .slice b m d, .int .i64 cp, .int .i64 fu, .bool de] 26)) := hbx1
  have HM1 : Hid (MapS w1 mb q1 D1) := hM1
  have HR1 : Hid (RepS D1 (pageOf fs)) := hR1
  have HPL : Hid (ps.length = m) := hP.1
  have HP : Hid (∀ W, Below w.heap.size w W → PendsAt W A B b m d ps) := fun W hW => hP.below (hW.mono hB)
  have pnc := hP.2.1
  have pc0 := hP.2.2.1
  unfold maxLen at pc0
  obtain ⟨y0, y1, y2⟩ := box_cells hbx1
  clear hF hca hI hb0 k0 hb1 hbx1 hM1 hR1 hsm hmb1 hP
  go_wp2
  clear y0 y1 y2
  go_loopw [5, 11] (fun _ i wr => ∃ (k q : Nat) (fk : List PF) (D : DataW Unit), k ≤ m ∧ i = .int .i64 k ∧ q ≤ 1048576 + k * 1001 ∧ Hid (MapS wr mb q D) ∧ Hid (RepS D (pageOf fk)) ∧ Hid (Inv fk) ∧ Hid (ByteF fk) ∧ Hid (totalI fk ≤ cp) ∧ Hid (cacheS cp (ps.drop k) fk = true) ∧ Hid (lastF ps fs = lastF (ps.drop k) fk) ∧ Hid (Below w.heap.size w wr)) (fun _ i _ => m - (intOf i).toNat)
  case atStart => exact ⟨0, q1, fs, D1, Nat.zero_le _, rfl, by omega, HM1, HR1, HI, HBY, htot, HCA, rfl, F1⟩
  case round =>
    clear F1 hz1 HBX HM1 HR1 HI HBY HCA
    obtain ⟨k, q, fk, D, hk, rfl, hq, HM, HR, HI, HBY, HT, HCA, HLA, HBE⟩ := hrel
    by_cases hlt : k < m
    · obtain ⟨_, _, _, pcell⟩ := HP.out wr HBE.out
      obtain ⟨pb, poff, rfl, hpb, hpc⟩ := pcell (by omega)
      have e1 := hpc k hlt
      have hpl := HPL.out
      have hdr : ps.drop k = ps.getD k (ByteArray.empty, 0, []) :: ps.drop (k + 1) := by
        rw [List.drop_eq_getElem_cons (by omega)]; simp [List.getD, List.getElem?_eq_getElem (show k < ps.length by omega)]
      obtain ⟨p, hp⟩ : ∃ p, p = ps.getD k (ByteArray.empty, 0, []) := ⟨_, rfl⟩
      rw [← hp] at e1 hdr
      clear hp
      obtain ⟨nm, pq, pd⟩ := p
      obtain ⟨g1, g2, g3, g4, da, dn, dc, g5, g6⟩ := e1
      simp only at g1 g2 g3 g4 g6
      have hca' := HCA.out
      rw [hdr] at hca'
      simp only [cacheS, Bool.and_eq_true, pendOk, fitsB, decide_eq_true_eq, beq_iff_eq] at hca'
      obtain ⟨⟨⟨t1, t2⟩, t3, t4⟩, ⟨t5, t6⟩, t7⟩ := hca'
      obtain ⟨pgN, rfl⟩ := Int.eq_ofNat_of_zero_le t3
      have hst : stepP fk (nm, (pgN : Int), pd) = doP fk nm pgN pd := by simp [stepP]
      rw [hst] at t5 t6 t7
      have L1 : Hid (lastF ps fs = lastF (ps.drop (k + 1)) (doP fk nm pgN pd)) := by show _ = _; rw [HLA.out, hdr]; simp only [lastF]; rw [hst]
      have hle := lenI_le_total fk nm
      have htk := HT.out
      have hpg : pgN ≤ 1000 := by omega
      have hdn : dn = 128 := by rw [← g6.1]; exact t2
      subst hdn
      have T6 : Hid (totalI (doP fk nm pgN pd) ≤ cp) := t6
      have T7 : Hid (cacheS cp (ps.drop (k + 1)) (doP fk nm pgN pd) = true) := t7
      have T4 : Hid ((pgN : Int) ≤ lenI fk nm) := t4
      have T2 : Hid (pd.length = 128) := t2
      have hbs := HBE.out.size
      have hbk : pb < wr.heap.size := by omega
      have HG6 : Hid (BytesAt wr A B da 128 dc pd) := g6
      have I1 : Hid (Inv (doP fk nm pgN pd)) := doP_inv HI.out
      have B1 : Hid (ByteF (doP fk nm pgN pd)) := HBY.out.do HI.out g6.2.2.2.1
      clear hpc pcell g6 t5 t6 t7 hdr hst hle htk t1 t2 t3 t4 hpl
      have hal : Below wr.heap.size wr (wr.alloc (.cells #[.string nm, .int .i64 (pgN : Int), .slice da 128 dc] 71)) := (Below.refl _ _).alloc (Nat.le_refl _) _
      go_wp2_with fail
      refine (write_any nm g2 pgN 128 (lenI fk nm).toNat mb q da dc pd D (pageOf fk) _ A B (by simp; omega) (HG6.out.below (hal.mono (by omega))) (.inr (by omega)) (Nat.le_refl _) (by omega) (by omega) (World.ownsMap.alloc HM.out _) HR.out (fun t => page_there HI.out nm t) (fun t bs hb => page_byte HBY.out nm t bs hb)).mono ?_
      rintro e w3 ⟨rfl, q3, D3, hq3, hM3, hR3, hF3⟩
      have R3 : Hid (RepS D3 (pageOf (doP fk nm pgN pd))) := hR3.congr fun nm' t => do_write HI.out T4.out T2.out nm' t
      have M3 : Hid (MapS w3 mb q3 D3) := hM3
      have E3 : Hid (Below w.heap.size w w3) := (HBE.out.trans (hal.mono (by omega))).trans (hF3.below (by simp; omega) (fun g e => by omega))
      clear hM3 hR3 hF3 hal
      go_wp2
      go_roundw
      case rel => exact ⟨k + 1, q3, doP fk nm pgN pd, D3, by omega, by go_num, by omega, M3, R3, I1, B1, T6, T7, L1, E3⟩
      case measure => simp [intOf]; omega
    · have HL : Hid (lastF ps fs = fk) := by show _ = _; rw [HLA.out, List.drop_eq_nil_of_le (by have := HPL.out; omega)]; rfl
      go_wp2
      go_ret
      exact ⟨mb, q, D, rfl, by omega, HM.out, by omega, by rw [HL.out]; exact HR.out, by rw [HL.out]; exact HBY.out, by rw [HL.out]; exact HI.out, HBE.out⟩
end Go.Proofs.Ytakdaandbdbdnaa
namespace Go.Proofs.Ytakdaandbdbdnaa
open Go.RowKit Go.Maps
set_option linter.unusedVariables false
set_option maxRecDepth 100000

theorem cacheS_pends {cp : Int} : ∀ (ps : List PP) (fs : List PF), cacheS cp ps fs = true → pendsOk ps fs = true
  | [], _, _ => rfl
  | p :: r, fs, h => by
    simp only [cacheS, Bool.and_eq_true] at h
    simp only [pendsOk, Bool.and_eq_true]
    exact ⟨h.1, cacheS_pends r _ h.2.2⟩

set_option maxRecDepth 100000 in
set_option maxHeartbeats 2000000 in
theorem l1Seen_any (a : Option Addr) (n c : Nat) (fs : List PF) (b : Option Addr) (m d : Nat) (ps : List PP) (cp fu : Int) (de : Bool) (w : World) (A B : Nat) (hB : B ≤ w.heap.size) (hF : FilesAt w A B a n c fs) (hP : PendsAt w A B b m d ps)
    (hn : n ≤ 12) (hcp : cp ≤ 1000) (htot : totalI fs ≤ cp) (hca : cacheS cp ps fs = true) :
    Calls Try.prog 35 #[.agg #[.slice a n c, .slice b m d, .int .i64 cp, .int .i64 fu, .bool de]] w fun e w' => ∃ v xs vs, e = .returned v ∧ OwnF w' (w.heap.size + 1) v (lastF ps fs) xs vs ∧ Below w.heap.size w w' := by
  have hb0 : Below w.heap.size w (w.alloc (.cells #[.slice a n c, .slice b m d, .int .i64 cp, .int .i64 fu, .bool de] 26)) := (Below.refl _ _).alloc (Nat.le_refl _) _
  have hsm := small_of_total (fs := fs) (by omega)
  have hfl := hF.1
  go_enter Try.func35, Try.ntmps35
  go_wp2_with fail
  refine (l1Files_any _ _ _ fs _ A B (by simp; omega) (hF.below (hb0.mono hB)) (by omega) (fun j hj => Nat.le_trans (hsm j (by omega)) (by omega))).mono ?_
  rintro e w1 ⟨v1, xs1, vs1, rfl, hO1, hb1⟩
  have hO1' : OwnF w1 (w.heap.size + 1) v1 fs xs1 vs1 := by simpa using hO1
  have hg1 := hb0.trans (hb1.mono (by simp))
  have hz1 : w.heap.size + 1 ≤ w1.heap.size := by simpa using hb1.size
  have hbx1 : Hid (w1.heap[w.heap.size]? = some (.cells #[.slice a n c, .slice b m d, .int .i64 cp, .int .i64 fu, .bool de] 26)) := (hb1.block _ (by simp)).trans (heap_alloc_new w _)
  obtain ⟨pl, pnc, pc0, pcell⟩ := hP
  unfold maxLen at pc0
  obtain ⟨a1, n1, c1, rfl, hn1, hF1⟩ := hO1'.files
  clear hn1 hF1
  have HCA : Hid (cacheS cp ps fs = true) := hca
  clear hO1 hb1 hca hsm
  obtain ⟨y0, y1, y2⟩ := box_cells hbx1.out
  go_wp2
  go_loopw [3, 4] (fun v i wr => ∃ (k : Nat) (fk : List PF) (xk vk : List Value) (a' : Option Addr) (n' c' : Nat), k ≤ m ∧ i = .int .i64 k ∧ v = .slice a' n' c' ∧ OwnF wr (w.heap.size + 1) (.slice a' n' c') fk xk vk ∧ Hid (fk.length ≤ 12) ∧ Hid (totalI fk ≤ cp) ∧ Hid (cacheS cp (ps.drop k) fk = true) ∧ Hid (lastF ps fs = lastF (ps.drop k) fk) ∧ Below w.heap.size w wr ∧ w.heap.size + 1 ≤ wr.heap.size ∧ Hid (wr.heap[w.heap.size]? = some (.cells #[.slice a n c, .slice b m d, .int .i64 cp, .int .i64 fu, .bool de] 26))) (fun _ i _ => m - (intOf i).toNat)
  case atStart => exact ⟨0, fs, xs1, vs1, a1, n1, c1, Nat.zero_le _, rfl, rfl, hO1', by show _ ≤ _; omega, htot, HCA, rfl, hg1, hz1, hbx1⟩
  case round =>
    clear hO1' hg1 hz1 hbx1 y0 y1 y2
    obtain ⟨k, fk, xk, vk, a', n', c', hk, rfl, rfl, hO, hl12, htk, hca, hla, hbel, hSz, hbox⟩ := hrel
    obtain ⟨y0, y1, y2⟩ := box_cells hbox.out
    by_cases hlt : k < m
    · obtain ⟨pb, poff, rfl, hpb, hpc⟩ := pcell (by omega)
      have e1 := (hpc k hlt).below hpb (hbel.mono hB)
      have e1w := hpc k hlt
      have hdr : ps.drop k = ps.getD k (ByteArray.empty, 0, []) :: ps.drop (k + 1) := by
        rw [List.drop_eq_getElem_cons (by omega)]; simp [List.getD, List.getElem?_eq_getElem (show k < ps.length by omega)]
      obtain ⟨p, hp⟩ : ∃ p, p = ps.getD k (ByteArray.empty, 0, []) := ⟨_, rfl⟩
      rw [← hp] at e1 hdr e1w
      clear hp
      obtain ⟨nm, pq, pd⟩ := p
      obtain ⟨g1, g2, g3, g4, da, dn, dc, g5, g6⟩ := e1
      simp only at g1 g2 g3 g4 g6
      have hca' := hca.out
      rw [hdr] at hca'
      simp only [cacheS, Bool.and_eq_true, pendOk, fitsB, decide_eq_true_eq, beq_iff_eq] at hca'
      obtain ⟨⟨⟨t1, t2⟩, t3, t4⟩, ⟨t5, t6⟩, t7⟩ := hca'
      obtain ⟨pgN, rfl⟩ := Int.eq_ofNat_of_zero_le t3
      have hst : stepP fk (nm, (pgN : Int), pd) = doP fk nm pgN pd := by simp [stepP]
      rw [hst] at t5 t6 t7
      have hla2 : Hid (lastF ps fs = lastF (ps.drop (k + 1)) (doP fk nm pgN pd)) := by show _ = _; rw [hla.out, hdr]; simp only [lastF]; rw [hst]
      have hle := lenI_le_total fk nm
      have htk' := htk.out
      have hl12' := hl12.out
      have hpg : pgN ≤ 1000 := by omega
      have hallk := small_of_total (fs := fk) (by omega)
      have hdn : dn = 128 := by rw [← g6.1]; exact t2
      subst hdn
      have T5 : Hid ((doP fk nm pgN pd).length ≤ 12) := t5
      have T6 : Hid (totalI (doP fk nm pgN pd) ≤ cp) := t6
      have T7 : Hid (cacheS cp (ps.drop (k + 1)) (doP fk nm pgN pd) = true) := t7
      have hbk : pb < wr.heap.size := by have := hbel.size; omega
      have HO : Hid (OwnF wr (w.heap.size + 1) (.slice a' n' c') fk xk vk) := hO
      have HG6 : Hid (BytesAt wr A B da 128 dc pd) := g6
      have HALL : Hid (∀ j, j < fk.length → (fk.getD j (ByteArray.empty, [])).2.length ≤ 1073741824) := fun j hj => Nat.le_trans (hallk j hj) (by omega)
      have hfk : fk.length ≤ 1048576 := by omega
      clear hpc pcell hO g6 hallk t5 t6 t7 hdr hst hle htk' hl12' t1 t2 t3 t4 hca htk hl12 e1w
      go_wp2
      go_region_held3 (fun w' => w'.cell? ⟨w.heap.size, 1, none⟩ = some (.slice (some ⟨pb, poff, none⟩) m d) ∧ w'.cell? ⟨pb, poff + k * 3, none⟩ = some (.string nm) ∧ w'.cell? ⟨pb, poff + k * 3 + 1, none⟩ = some (.int .i64 (pgN : Int)) ∧ w'.cell? ⟨pb, poff + k * 3 + 2, none⟩ = some (.slice da 128 dc)) (go_keep)
        (first | (go_at_call 68; refine (l1Do_any _ _ _ fk xk vk nm pgN _ _ _ pd wr.drew (w.heap.size + 1) A B hSz (HO.out.below ((Below.refl _ _).drew)) (by omega) (HG6.out.below ((Below.refl _ _).drew)) (by omega) g2 hfk (by omega) HALL.out).mono ?_; rintro e w3 ⟨v3, rfl, xs3, vs3, hO3, hb3⟩; have hbw : Below (w.heap.size + 1) wr w3 := ((Below.refl _ wr).drew).trans hb3; have z1 := (hbw.cell (p := ⟨w.heap.size, 1, none⟩) (Nat.lt_succ_self _)).trans y1; have z2 := (hbw.cell (p := ⟨pb, poff + k * 3, none⟩) (by show pb < _; omega)).trans g1; have z3 := (hbw.cell (p := ⟨pb, poff + k * 3 + 1, none⟩) (by show pb < _; omega)).trans g3; have z4 := (hbw.cell (p := ⟨pb, poff + k * 3 + 2, none⟩) (by show pb < _; omega)).trans g5))
      obtain ⟨a3, n3, c3, rfl, hn3, hF3⟩ := hO3.files
      clear hn3 hF3
      have hg3 : Below w.heap.size w w3 := hbel.trans (hbw.mono (by omega))
      have hz3 : w.heap.size + 1 ≤ w3.heap.size := Nat.le_trans hSz hbw.size
      have hbx3 : Hid (w3.heap[w.heap.size]? = some (.cells #[.slice a n c, .slice (some ⟨pb, poff, none⟩) m d, .int .i64 cp, .int .i64 fu, .bool de] 26)) := (hbw.block _ (Nat.lt_succ_self _)).trans hbox.out
      clear hb3 hbw z1 z2 z3 z4 y0 y1 y2 hbel hbox
      go_wp2
      go_roundw
      case rel => exact ⟨k + 1, doP fk nm pgN pd, xs3, vs3, a3, n3, c3, by omega, by go_num, rfl, hO3, T5, T6, T7, hla2, hg3, hz3, hbx3⟩
      case measure => simp [intOf]; omega
    · have HL : Hid (lastF ps fs = fk) := by show _ = _; rw [hla.out, List.drop_eq_nil_of_le (by omega)]; rfl
      go_wp2
      go_ret
      exact ⟨_, xk, vk, rfl, by rw [HL.out]; exact hO, hbel⟩
end Go.Proofs.Ytakdaandbdbdnaa
