import Derived.Test.YtnpndbicmamggaaGreatGBD
import Derived.Deep.QuietTactic
import Derived.BigQuiet
import Derived.WalkLawsBesides
namespace Go.Proofs.YtnpndbicmamggaaGreat
open Go.RowKit
set_option linter.unusedVariables false
set_option maxRecDepth 100000

def pendOk (fs : List PF) (p : PP) : Bool := nameB p.1 && (p.2.2.length == 128) && decide (0 ≤ p.2.1 ∧ p.2.1 ≤ lenI fs p.1)
def stepP (fs : List PF) (p : PP) : List PF := doP fs p.1 p.2.1.toNat p.2.2
def fitsB (cp : Int) (fs : List PF) : Bool := decide (fs.length ≤ 12) && decide (totalI fs ≤ cp)
def cacheS (cp : Int) : List PP → List PF → Bool
  | [], _ => true
  | p :: r, fs => pendOk fs p && (fitsB cp (stepP fs p) && cacheS cp r (stepP fs p))
def headB (n m : Nat) (cp fu : Int) : Bool := decide (n ≤ 12) && decide (0 ≤ cp ∧ cp ≤ 1000) && decide (m ≤ 1000) && decide (-1 ≤ fu ∧ fu ≤ 1000000)
def specV (fs : List PF) (ps : List PP) (cp fu : Int) : Bool := headB fs.length ps.length cp fu && filesOk fs && decide (totalI fs ≤ cp) && cacheS cp ps fs
theorem specV_head {fs : List PF} {ps : List PP} {cp fu : Int} (h : headB fs.length ps.length cp fu = false) : specV fs ps cp fu = false := by simp [specV, h]

set_option maxHeartbeats 1000000 in
theorem specValid_head (a : Option Addr) (n c : Nat) (b : Option Addr) (m d : Nat) (cp fu : Int) (de : Bool) (w : World) (hn : n ≤ maxLen) (hm : m ≤ maxLen) (h : headB n m cp fu = false) :
    Calls Tryz.prog 26 #[.agg #[.slice a n c, .slice b m d, .int .i64 cp, .int .i64 fu, .bool de]] w fun e w' => e = .returned (.bool false) ∧ Below w.heap.size w w' := by
  have hb0 : Below w.heap.size w (w.alloc (.cells #[.slice a n c, .slice b m d, .int .i64 cp, .int .i64 fu, .bool de] 35)) := (Below.refl _ _).alloc (Nat.le_refl _) _
  unfold maxLen at hn hm
  unfold headB at h
  by_cases h1 : n ≤ 12
  · have d1 : decide ((12 : Int) < (n : Int)) = false := by simp; omega
    by_cases h2 : 0 ≤ cp ∧ cp ≤ 1000
    · have d2 : decide ((0 : Int) ≤ cp ∧ cp ≤ 1000) = true := decide_eq_true h2
      by_cases h3 : m ≤ 1000
      · have d3 : decide ((1000 : Int) < (m : Int)) = false := by simp; omega
        have d4 : decide ((-1 : Int) ≤ fu ∧ fu ≤ 1000000) = false := by
          rw [decide_eq_false_iff_not]
          intro h4
          simp [h1, h2, h3, h4] at h
        clear h
        go_enter Tryz.func26, Tryz.ntmps26
        go_wp2_with (go_at_call 42; refine (l1In_any _ _ _ _).mono ?_; rintro e w1 ⟨rfl, rfl⟩)
        go_ret
        exact ⟨rfl, hb0⟩
      · have d3 : decide ((1000 : Int) < (m : Int)) = true := by simp; omega
        clear h
        go_enter Tryz.func26, Tryz.ntmps26
        go_wp2_with (go_at_call 42; refine (l1In_any _ _ _ _).mono ?_; rintro e w1 ⟨rfl, rfl⟩)
        go_ret
        exact ⟨rfl, hb0⟩
    · have d2 : decide ((0 : Int) ≤ cp ∧ cp ≤ 1000) = false := decide_eq_false h2
      clear h
      go_enter Tryz.func26, Tryz.ntmps26
      go_wp2_with (go_at_call 42; refine (l1In_any _ _ _ _).mono ?_; rintro e w1 ⟨rfl, rfl⟩)
      go_ret
      exact ⟨rfl, hb0⟩
  · have d1 : decide ((12 : Int) < (n : Int)) = true := by simp; omega
    clear h
    go_enter Tryz.func26, Tryz.ntmps26
    go_wp2_with (go_at_call 42; refine (l1In_any _ _ _ _).mono ?_; rintro e w1 ⟨rfl, rfl⟩)
    go_ret
    exact ⟨rfl, hb0⟩

theorem box_cells {wr : World} {N : Nat} {v0 v1 v2 v3 v4 : Value} {t : TypeId} (h : wr.heap[N]? = some (.cells #[v0, v1, v2, v3, v4] t)) : wr.cell? ⟨N, 0, none⟩ = some v0 ∧ wr.cell? ⟨N, 1, none⟩ = some v1 ∧ wr.cell? ⟨N, 2, none⟩ = some v2 := by
  refine ⟨?_, ?_, ?_⟩
  · rw [cell_of_row wr N 0 _ _ _ h]; rfl
  · rw [cell_of_row wr N 1 _ _ _ h]; rfl
  · rw [cell_of_row wr N 2 _ _ _ h]; rfl

theorem below_dn {S : Nat} {w wr : World} {o : Obj} {q : Nat} (h : Below S w wr) (hS : S ≤ wr.heap.size) : Below S w ((wr.alloc o).drewN q) :=
  (h.alloc hS o).trans ⟨rfl, rfl, rfl, Nat.le_refl _, fun _ _ => rfl⟩

theorem fileOk_eq {fs : List PF} {i : Nat} {f : PF} (h : f = fs.getD i (ByteArray.empty, [])) : fileOk fs i = (nameB f.1 && !(f.2.length == 0) && (f.2.length % 128 == 0) && !(decide (0 < i) && geB (fs.getD (i - 1) (ByteArray.empty, [])).1 f.1)) := by rw [h]; rfl

set_option maxRecDepth 100000 in
set_option maxHeartbeats 2000000 in
theorem specValid_main (a : Option Addr) (n c : Nat) (fs : List PF) (b : Option Addr) (m d : Nat) (ps : List PP) (cp fu : Int) (de : Bool) (w : World) (A B : Nat) (hB : B ≤ w.heap.size) (hF : FilesAt w A B a n c fs) (hP : PendsAt w A B b m d ps)
    (hall : ∀ j, j < n → (fs.getD j (ByteArray.empty, [])).2.length ≤ 1048576) (h1 : n ≤ 12) (h2 : 0 ≤ cp ∧ cp ≤ 1000) (h3 : m ≤ 1000) (h4 : -1 ≤ fu ∧ fu ≤ 1000000) :
    Calls Tryz.prog 26 #[.agg #[.slice a n c, .slice b m d, .int .i64 cp, .int .i64 fu, .bool de]] w fun e w' => e = .returned (.bool (filesOk fs && decide (totalI fs ≤ cp) && cacheS cp ps fs)) ∧ Below w.heap.size w w' := by
  have hb0 : Below w.heap.size w (w.alloc (.cells #[.slice a n c, .slice b m d, .int .i64 cp, .int .i64 fu, .bool de] 35)) := (Below.refl _ _).alloc (Nat.le_refl _) _
  have d1 : decide ((12 : Int) < (n : Int)) = false := by simp; omega
  have d2 : decide ((0 : Int) ≤ cp ∧ cp ≤ 1000) = true := decide_eq_true h2
  have d3 : decide ((1000 : Int) < (m : Int)) = false := by simp; omega
  have d4 : decide ((-1 : Int) ≤ fu ∧ fu ≤ 1000000) = true := decide_eq_true h4
  go_enter Tryz.func26, Tryz.ntmps26
  go_wp2_with (go_at_call 42; refine (l1In_any _ _ _ _).mono ?_; rintro e w1 ⟨rfl, rfl⟩)
  clear d1 d2 d3 d4
  have hFF := hF
  obtain ⟨hl, hnc, hc, hcell⟩ := hF
  go_loopw [3, 4] (fun i fv wr => ∃ k : Nat, k ≤ n ∧ i = .int .i64 k ∧ Hid (∀ j, j < k → fileOk fs j = true) ∧ Below w.heap.size w wr ∧ Hid (wr.heap[w.heap.size]? = some (.cells #[.slice a n c, .slice b m d, .int .i64 cp, .int .i64 fu, .bool de] 35))) (fun i _ _ => n - (intOf i).toNat)
  case atStart => exact ⟨0, Nat.zero_le _, rfl, fun j hj => absurd hj (Nat.not_lt_zero _), hb0, heap_alloc_new w _⟩
  case round =>
    obtain ⟨k, hk, rfl, hok, hbel, hbox⟩ := hrel
    obtain ⟨x0, x1, x2⟩ := box_cells hbox.out
    by_cases hlt : k < n
    · obtain ⟨ab, aoff, rfl, hab, hcb⟩ := hcell (by omega)
      have e1 := (hcb k hlt).below hab (hbel.mono hB)
      obtain ⟨f, hf⟩ : ∃ f, f = fs.getD k (ByteArray.empty, []) := ⟨_, rfl⟩
      have HFO : Hid (fileOk fs k = (nameB f.1 && !(f.2.length == 0) && (f.2.length % 128 == 0) && !(decide (0 < k) && geB (fs.getD (k - 1) (ByteArray.empty, [])).1 f.1))) := fileOk_eq hf
      have hall1 := hall k hlt
      rw [← hf] at e1 hall1
      obtain ⟨p1, p2, pa, pn, pc, p3, p4⟩ := e1
      have hpn := p4.1
      rw [hpn] at hall1 HFO
      have hbk : ab < wr.heap.size := by have := hbel.size; omega
      have hwl : w.heap.size < wr.heap.size := (Array.getElem?_eq_some_iff.1 hbox.out).1
      clear hf
      by_cases t1 : nameB f.1 = true
      · by_cases t2 : pn = 0
        · have HB : Hid ((filesOk fs && decide (totalI fs ≤ cp) && cacheS cp ps fs) = false) := by show _ = _; rw [filesOk_no (i := k) (by omega) (by rw [HFO.out]; simp [t2])]; rfl
          have s2 : ((pn : Int) == 0) = true := by simp [t2]
          clear hcb hcell hall p4
          go_wp2_with fail
          go_quiet ((go_at_call 43; exact Calls.quiet_of_same (l1Name_any _ _ p2)))
          go_wp2
          go_ret
          exact ⟨by rw [HB.out]; rfl, below_dn hbel hbel.size⟩
        · by_cases t3 : pn % 128 = 0
          · by_cases t4 : 0 < k
            · obtain ⟨g1, _, _⟩ := (hcb (k - 1) (by omega)).below hab (hbel.mono hB)
              obtain ⟨pf, hpf⟩ : ∃ pf, pf = fs.getD (k - 1) (ByteArray.empty, []) := ⟨_, rfl⟩
              rw [← hpf] at HFO g1
              clear hpf
              have s4 : decide ((0 : Int) < (k : Int)) = true := by simp; omega
              by_cases t5 : geB pf.1 f.1 = true
              · have HB : Hid ((filesOk fs && decide (totalI fs ≤ cp) && cacheS cp ps fs) = false) := by show _ = _; rw [filesOk_no (i := k) (by omega) (by rw [HFO.out]; simp [t4, t5])]; rfl
                have s2 : ((pn : Int) == 0) = false := by simp [t2]
                have s3 : ((pn : Int) % 128 != 0) = false := by simp; omega
                have s3t : ((pn : Int).tmod 128 != 0) = false := by rw [Int.tmod_eq_emod_of_nonneg (by omega)]; exact s3
                have s5 : Op.bytesLess pf.1.toList f.1.toList = false := by simpa [geB] using t5
                clear hcb hcell hall p4
                go_wp2_with fail
                go_quiet ((go_at_call 43; exact Calls.quiet_of_same (l1Name_any _ _ p2)))
                go_wp2
                go_ret
                exact ⟨by rw [HB.out]; rfl, below_dn hbel hbel.size⟩
              · have HB : Hid (∀ j, j < k + 1 → fileOk fs j = true) := by
                  intro j hj
                  by_cases hjk : j = k
                  · subst hjk; rw [HFO.out]; simp [t1, t2, t3, t5]
                  · exact hok.out j (by omega)
                have s2 : ((pn : Int) == 0) = false := by simp [t2]
                have s3 : ((pn : Int) % 128 != 0) = false := by simp; omega
                have s3t : ((pn : Int).tmod 128 != 0) = false := by rw [Int.tmod_eq_emod_of_nonneg (by omega)]; exact s3
                have s5 : Op.bytesLess pf.1.toList f.1.toList = true := by simpa [geB] using t5
                have hbx : Hid (∀ q, ((wr.alloc (.cells #[.string f.1, .slice pa pn pc] 71)).drewN q).heap[w.heap.size]? = some (.cells #[.slice (some ⟨ab, aoff, none⟩) n c, .slice b m d, .int .i64 cp, .int .i64 fu, .bool de] 35)) := fun q => (Below.heap_alloc _ _ _ (Array.getElem?_eq_some_iff.1 hbox.out).1).trans hbox.out
                clear hcb hcell hall p4
                go_wp2_with fail
                go_quiet ((go_at_call 43; exact Calls.quiet_of_same (l1Name_any _ _ p2)))
                go_wp2
                go_roundw
                case rel => exact ⟨k + 1, by omega, by go_num, HB, below_dn hbel hbel.size, hbx.out _⟩
                case measure => simp [intOf]; omega
            · have HB : Hid (∀ j, j < k + 1 → fileOk fs j = true) := by
                intro j hj
                by_cases hjk : j = k
                · subst hjk; rw [HFO.out]; simp [t1, t2, t3, t4]
                · exact hok.out j (by omega)
              have s2 : ((pn : Int) == 0) = false := by simp [t2]
              have s3 : ((pn : Int) % 128 != 0) = false := by simp; omega
              have s3t : ((pn : Int).tmod 128 != 0) = false := by rw [Int.tmod_eq_emod_of_nonneg (by omega)]; exact s3
              have s4 : decide ((0 : Int) < (k : Int)) = false := by simp; omega
              have hbx : Hid (∀ q, ((wr.alloc (.cells #[.string f.1, .slice pa pn pc] 71)).drewN q).heap[w.heap.size]? = some (.cells #[.slice (some ⟨ab, aoff, none⟩) n c, .slice b m d, .int .i64 cp, .int .i64 fu, .bool de] 35)) := fun q => (Below.heap_alloc _ _ _ (Array.getElem?_eq_some_iff.1 hbox.out).1).trans hbox.out
              clear hcb hcell hall p4
              go_wp2_with fail
              go_quiet ((go_at_call 43; exact Calls.quiet_of_same (l1Name_any _ _ p2)))
              go_wp2
              go_roundw
              case rel => exact ⟨k + 1, by omega, by go_num, HB, below_dn hbel hbel.size, hbx.out _⟩
              case measure => simp [intOf]; omega
          · have HB : Hid ((filesOk fs && decide (totalI fs ≤ cp) && cacheS cp ps fs) = false) := by show _ = _; rw [filesOk_no (i := k) (by omega) (by rw [HFO.out]; simp [t3])]; rfl
            have s2 : ((pn : Int) == 0) = false := by simp [t2]
            have s3 : ((pn : Int) % 128 != 0) = true := by simp; omega
            have s3t : ((pn : Int).tmod 128 != 0) = true := by rw [Int.tmod_eq_emod_of_nonneg (by omega)]; exact s3
            clear hcb hcell hall p4
            go_wp2_with fail
            go_quiet ((go_at_call 43; exact Calls.quiet_of_same (l1Name_any _ _ p2)))
            go_wp2
            go_ret
            exact ⟨by rw [HB.out]; rfl, below_dn hbel hbel.size⟩
      · have t1' : nameB f.1 = false := by simpa using t1
        have HB : Hid ((filesOk fs && decide (totalI fs ≤ cp) && cacheS cp ps fs) = false) := by show _ = _; rw [filesOk_no (i := k) (by omega) (by rw [HFO.out]; simp [t1'])]; rfl
        clear hcb hcell hall p4
        go_wp2_with fail
        go_quiet ((go_at_call 43; exact Calls.quiet_of_same (l1Name_any _ _ p2)))
        go_wp2
        go_ret
        exact ⟨by rw [HB.out]; rfl, below_dn hbel hbel.size⟩
    · have hfo : filesOk fs = true := filesOk_yes (fun j hj => hok.out j (by omega))
      have htot : totalI fs ≤ 1073741824 := by
        have := totalI_small (fs := fs) (K := 1048576) (fun j hj => hall j (by omega))
        have h12 : ((fs.length : Int)) ≤ 12 := by omega
        omega
      have hwl : w.heap.size < wr.heap.size := (Array.getElem?_eq_some_iff.1 hbox.out).1
      have hFr := hFF.below (hbel.mono hB)
      have HFO : Hid (filesOk fs = true) := hfo
      clear hfo hcell hok
      by_cases t6 : cp < totalI fs
      · have HB : Hid ((filesOk fs && decide (totalI fs ≤ cp) && cacheS cp ps fs) = false) := by
          show _ = _
          rw [show decide (totalI fs ≤ cp) = false by simp; omega]; simp
        go_wp2_with fail
        go_quiet ((go_at_call 44; exact Calls.quiet_of_same (l1Total_any _ _ _ fs _ A B (by exact hFr) htot)))
        go_wp2
        go_ret
        exact ⟨by rw [HB.out]; rfl, hbel.trans ⟨rfl, rfl, rfl, Nat.le_refl _, fun _ _ => rfl⟩⟩
      · go_wp2_with fail
        go_quiet ((go_at_call 44; exact Calls.quiet_of_same (l1Total_any _ _ _ fs _ A B (by exact hFr) htot)))
        go_wp2_with fail
        refine (l1Files_any _ _ _ fs (wr.drewN nq) A B (Nat.le_trans hB hbel.size) (by exact hFr) (by omega) hall).mono ?_
        rintro e w2 ⟨v2, xs2, vs2, rfl, hO2, hb2⟩
        obtain ⟨S, hS⟩ : ∃ S, S = wr.heap.size := ⟨_, rfl⟩
        have hO2' : OwnF w2 S v2 fs xs2 vs2 := by rw [hS]; exact hO2
        have hb2' : Below S wr w2 := by rw [hS]; exact Below.trans (b := wr.drewN nq) ⟨rfl, rfl, rfl, Nat.le_refl _, fun _ _ => rfl⟩ hb2
        rw [← hS] at hwl
        have hbel2 : Below w.heap.size w w2 := hbel.trans (hb2'.mono (by omega))
        have hbx2 : Hid (w2.heap[w.heap.size]? = some (.cells #[.slice a n c, .slice b m d, .int .i64 cp, .int .i64 fu, .bool de] 35)) := (hb2'.block _ hwl).trans hbox.out
        have hSz : S ≤ w2.heap.size := by rw [hS]; exact hb2'.size
        have HT : Hid ((filesOk fs && decide (totalI fs ≤ cp) && cacheS cp ps fs) = cacheS cp ps fs) := by
          show _ = _
          rw [HFO.out, show decide (totalI fs ≤ cp) = true by simp; omega]; simp
        obtain ⟨pl, pnc, pc0, pcell⟩ := hP
        clear hO2 hb2 hb2' hS hFr hbel hbox x0 x1 x2 HFO hFF
        obtain ⟨y0, y1, y2⟩ := box_cells hbx2.out
        go_wp2
        go_loopw [5, 6, 7] (fun v i pv wr => ∃ (k : Nat) (fk : List PF) (xk vk : List Value) (a' : Option Addr) (n' c' : Nat), k ≤ m ∧ i = .int .i64 k ∧ v = .slice a' n' c' ∧ OwnF wr S (.slice a' n' c') fk xk vk ∧ fk.length ≤ 12 ∧ Hid (totalI fk ≤ cp) ∧ Hid (cacheS cp ps fs = cacheS cp (ps.drop k) fk) ∧ Below w.heap.size w wr ∧ S ≤ wr.heap.size ∧ Hid (wr.heap[w.heap.size]? = some (.cells #[.slice a n c, .slice b m d, .int .i64 cp, .int .i64 fu, .bool de] 35))) (fun _ i _ _ => m - (intOf i).toNat)
        case atStart =>
          obtain ⟨a', n', c', rfl, _, _⟩ := hO2'.files
          exact ⟨0, fs, xs2, vs2, a', n', c', Nat.zero_le _, rfl, rfl, hO2', by omega, by show _ ≤ _; omega, rfl, hbel2, hSz, hbx2⟩
        case round =>
          clear hO2' hbel2 hSz hbx2 y0 y1 y2
          obtain ⟨k, fk, xk, vk, a', n', c', hk, rfl, rfl, hO, hl12, htk, hca, hbel, hSz, hbox⟩ := hrel
          obtain ⟨y0, y1, y2⟩ := box_cells hbox.out
          have hwl2 : w.heap.size < wr.heap.size := by omega
          by_cases hlt : k < m
          · obtain ⟨pb, poff, rfl, hpb, hpc⟩ := pcell (by omega)
            have e1 := (hpc k hlt).below hpb (hbel.mono hB)
            have hdr : ps.drop k = ps.getD k (ByteArray.empty, 0, []) :: ps.drop (k + 1) := by
              rw [List.drop_eq_getElem_cons (by omega)]; simp [List.getD, List.getElem?_eq_getElem (show k < ps.length by omega)]
            obtain ⟨p, hp⟩ : ∃ p, p = ps.getD k (ByteArray.empty, 0, []) := ⟨_, rfl⟩
            rw [← hp] at e1 hdr
            clear hp
            obtain ⟨nm, pq, pd⟩ := p
            have HD : Hid (ps.drop k = (nm, pq, pd) :: ps.drop (k + 1)) := hdr
            clear hdr
            obtain ⟨g1, g2, g3, g4, da, dn, dc, g5, g6⟩ := e1
            simp only at g1 g2 g3 g4 g6
            have hdn := g6.1
            obtain ⟨hn', _, hFk⟩ := hO.rowF
            have HN : Hid (n' = fk.length) := hn'
            have hn12 : n' ≤ 12 := by omega
            clear hn'
            have hbk : pb < wr.heap.size := by have := hbel.size; omega
            by_cases t1 : nameB nm = true
            · by_cases t2 : dn = 128
              · have s2 : ((dn : Int) != 128) = false := by simp [t2]
                by_cases t3 : 0 ≤ pq ∧ pq ≤ lenI fk nm
                · subst t2
                  have s3 : decide (0 ≤ pq ∧ pq ≤ lenI fk nm) = true := decide_eq_true t3
                  obtain ⟨pgN, rfl⟩ := Int.eq_ofNat_of_zero_le t3.1
                  have hle := lenI_le_total fk nm
                  have htk' := htk.out
                  have hpg : pgN ≤ 1000 := by omega
                  have hallk := small_of_total (fs := fk) (by omega)
                  have hpk : pendOk fk (nm, (pgN : Int), pd) = true := by simp [pendOk, t1, hdn, t3.2]
                  have HP : Hid (pendOk fk (nm, (pgN : Int), pd) = true) := hpk
                  clear htk' hpk hle
                  clear hpc pcell
                  go_wp2_with fail
                  go_quiet ((first | (go_at_call 43; exact Calls.quiet_of_same (l1Name_any _ _ g2)) | (go_at_call 46; exact Calls.quiet_of_same (l1Len_any _ _ _ fk _ _ S wr.heap.size (hFk.below (below_dn (Below.refl _ _) (Nat.le_refl _))))) | (go_at_call 42; exact Calls.quiet_of_same (l1In_any _ _ _ _))))
                  go_wp2_with fail
                  have hbo : Below wr.heap.size wr ((wr.alloc (.cells #[.string nm, .int .i64 (pgN : Int), .slice da 128 dc] 73)).drewN nq) := below_dn (Below.refl _ _) (Nat.le_refl _)
                  refine (l1Do_any _ _ _ fk xk vk nm pgN _ _ _ pd ((wr.alloc (.cells #[.string nm, .int .i64 (pgN : Int), .slice da 128 dc] 73)).drewN nq) S A B (Nat.le_trans hSz hbo.size) (hO.below hbo) (by omega) (g6.below (hbo.mono (by omega))) (by omega) g2 (by omega) (by omega) (fun j hj => Nat.le_trans (hallk j hj) (by omega))).mono ?_
                  rintro e w3 ⟨v3, rfl, xs3, vs3, hO3, hb3⟩
                  have hb3' : Below S wr w3 := (hbo.mono hSz).trans hb3
                  have hbel3 : Below w.heap.size w w3 := hbel.trans (hb3'.mono (by omega))
                  have hSz3 : S ≤ w3.heap.size := Nat.le_trans hSz hb3'.size
                  have hbx3 : Hid (w3.heap[w.heap.size]? = some (.cells #[.slice a n c, .slice (some ⟨pb, poff, none⟩) m d, .int .i64 cp, .int .i64 fu, .bool de] 35)) := (hb3'.block _ hwl).trans hbox.out
                  obtain ⟨z0, z1, z2⟩ := box_cells hbx3.out
                  obtain ⟨a3, n3, c3, rfl, hn3, hF3⟩ := hO3.files
                  have hall3 := doP_all (nm := nm) (pg := pgN) (bs := pd) (K := 128128) hallk (by omega)
                  have hlen3 := doP_len fk nm pgN pd
                  have hl13 : (doP fk nm pgN pd).length ≤ 13 := by rw [hlen3]; split <;> omega
                  have htot3 : totalI (doP fk nm pgN pd) ≤ 1073741824 := by
                    have := totalI_small hall3
                    have h12 : (((doP fk nm pgN pd).length : Int)) ≤ 13 := by omega
                    omega
                  have HST : Hid (stepP fk (nm, (pgN : Int), pd) = doP fk nm pgN pd) := by show stepP fk (nm, (pgN : Int), pd) = _; simp [stepP]
                  have HN3 : Hid (n3 = (doP fk nm pgN pd).length) := hn3
                  have hn13 : n3 ≤ 13 := by omega
                  have hwl3 : w.heap.size < w3.heap.size := by omega
                  clear hn3 hlen3 hall3 hallk hO hFk hb3 hb3' hbo g6 y0 y1 y2 hbel hbox
                  generalize doP fk nm pgN pd = F3 at *
                  by_cases t7 : n3 ≤ 12
                  · have s7 : decide ((12 : Int) < (n3 : Int)) = false := by simp; omega
                    by_cases t8 : totalI (F3) ≤ cp
                    · have s8 : decide (cp < totalI (F3)) = false := by simp; omega
                      have HC : Hid (cacheS cp ps fs = cacheS cp (ps.drop (k + 1)) (F3)) := by
                        show _ = _
                        rw [hca.out, HD.out]
                        simp only [cacheS, HP.out, HST.out, Bool.true_and]
                        rw [show fitsB cp (F3) = true by simp [fitsB, t8]; rw [← HN3.out]; exact t7]
                        simp
                      have ht8 : Hid (totalI (F3) ≤ cp) := t8
                      have hl3 : (F3).length ≤ 12 := by rw [← HN3.out]; exact t7
                      go_wp2_with fail
                      go_quiet ((go_at_call 44; exact Calls.quiet_of_same (l1Total_any _ _ _ (F3) _ S w3.heap.size (by exact hF3) htot3)))
                      go_wp2
                      go_roundw
                      case rel => exact ⟨k + 1, _, xs3, vs3, a3, n3, c3, by omega, by go_num, rfl, hO3.below ⟨rfl, rfl, rfl, Nat.le_refl _, fun _ _ => rfl⟩, hl3, ht8, HC, hbel3.trans ⟨rfl, rfl, rfl, Nat.le_refl _, fun _ _ => rfl⟩, hSz3, hbx3⟩
                      case measure => simp [intOf]; omega
                    · have HB : Hid ((filesOk fs && decide (totalI fs ≤ cp) && cacheS cp ps fs) = false) := by show _ = _; rw [HT.out, hca.out, HD.out]; simp [cacheS, fitsB, HST.out, t8]
                      have s8 : decide (cp < totalI (F3)) = true := by simp; omega
                      go_wp2_with fail
                      go_quiet ((go_at_call 44; exact Calls.quiet_of_same (l1Total_any _ _ _ (F3) _ S w3.heap.size (by exact hF3) htot3)))
                      go_wp2
                      go_ret
                      exact ⟨by rw [HB.out]; rfl, hbel3.trans ⟨rfl, rfl, rfl, Nat.le_refl _, fun _ _ => rfl⟩⟩
                  · have hl7 : ¬ (F3).length ≤ 12 := by rw [← HN3.out]; exact t7
                    have s7 : decide ((12 : Int) < (n3 : Int)) = true := by simp; omega
                    have HB : Hid ((filesOk fs && decide (totalI fs ≤ cp) && cacheS cp ps fs) = false) := by show _ = _; rw [HT.out, hca.out, HD.out]; simp [cacheS, fitsB, HST.out, hl7]
                    go_wp2_with fail
                    go_quiet ((go_at_call 44; exact Calls.quiet_of_same (l1Total_any _ _ _ (F3) _ S w3.heap.size (by exact hF3) htot3)))
                    go_wp2
                    go_ret
                    exact ⟨by rw [HB.out]; rfl, hbel3.trans ⟨rfl, rfl, rfl, Nat.le_refl _, fun _ _ => rfl⟩⟩
                · have HB : Hid ((filesOk fs && decide (totalI fs ≤ cp) && cacheS cp ps fs) = false) := by show _ = _; rw [HT.out, hca.out, HD.out]; simp [cacheS, pendOk, t1, t3]
                  have s3 : decide (0 ≤ pq ∧ pq ≤ lenI fk nm) = false := decide_eq_false t3
                  clear hpc pcell g6 hO
                  go_wp2_with fail
                  go_quiet ((first | (go_at_call 43; exact Calls.quiet_of_same (l1Name_any _ _ g2)) | (go_at_call 46; exact Calls.quiet_of_same (l1Len_any _ _ _ fk _ _ S wr.heap.size (hFk.below (below_dn (Below.refl _ _) (Nat.le_refl _))))) | (go_at_call 42; exact Calls.quiet_of_same (l1In_any _ _ _ _))))
                  go_wp2
                  go_ret
                  exact ⟨by rw [HB.out]; rfl, below_dn hbel (by omega)⟩
              · have HB : Hid ((filesOk fs && decide (totalI fs ≤ cp) && cacheS cp ps fs) = false) := by show _ = _; rw [HT.out, hca.out, HD.out]; simp [cacheS, pendOk, hdn, t2]
                have s2 : ((dn : Int) != 128) = true := by simp; omega
                clear hpc pcell g6 hO
                go_wp2_with fail
                go_quiet ((first | (go_at_call 43; exact Calls.quiet_of_same (l1Name_any _ _ g2)) | (go_at_call 46; exact Calls.quiet_of_same (l1Len_any _ _ _ fk _ _ S wr.heap.size (hFk.below (below_dn (Below.refl _ _) (Nat.le_refl _))))) | (go_at_call 42; exact Calls.quiet_of_same (l1In_any _ _ _ _))))
                go_wp2
                go_ret
                exact ⟨by rw [HB.out]; rfl, below_dn hbel (by omega)⟩
            · have t1' : nameB nm = false := by simpa using t1
              have HB : Hid ((filesOk fs && decide (totalI fs ≤ cp) && cacheS cp ps fs) = false) := by show _ = _; rw [HT.out, hca.out, HD.out]; simp [cacheS, pendOk, t1']
              clear hpc pcell g6 hO
              go_wp2_with fail
              go_quiet ((first | (go_at_call 43; exact Calls.quiet_of_same (l1Name_any _ _ g2)) | (go_at_call 46; exact Calls.quiet_of_same (l1Len_any _ _ _ fk _ _ S wr.heap.size (hFk.below (below_dn (Below.refl _ _) (Nat.le_refl _))))) | (go_at_call 42; exact Calls.quiet_of_same (l1In_any _ _ _ _))))
              go_wp2
              go_ret
              exact ⟨by rw [HB.out]; rfl, below_dn hbel (by omega)⟩
          · have HE : Hid ((filesOk fs && decide (totalI fs ≤ cp) && cacheS cp ps fs) = true) := by
              show _ = _
              rw [HT.out, hca.out, List.drop_eq_nil_of_le (by omega)]; rfl
            go_wp2
            go_ret
            exact ⟨by rw [HE.out]; rfl, hbel⟩

theorem specValid_any (a : Option Addr) (n c : Nat) (fs : List PF) (b : Option Addr) (m d : Nat) (ps : List PP) (cp fu : Int) (de : Bool) (w : World) (A B : Nat) (hB : B ≤ w.heap.size) (hF : FilesAt w A B a n c fs) (hP : PendsAt w A B b m d ps)
    (hall : ∀ j, j < n → (fs.getD j (ByteArray.empty, [])).2.length ≤ 1048576) :
    Calls Tryz.prog 26 #[.agg #[.slice a n c, .slice b m d, .int .i64 cp, .int .i64 fu, .bool de]] w fun e w' => e = .returned (.bool (specV fs ps cp fu)) ∧ Below w.heap.size w w' := by
  have hfl := hF.1
  have hpl := hP.1
  cases hh : headB n m cp fu
  · have := specValid_head a n c b m d cp fu de w (Nat.le_trans hF.2.1 hF.2.2.1) (Nat.le_trans hP.2.1 hP.2.2.1) hh
    rw [specV_head (by rw [hfl, hpl]; exact hh)]
    exact this
  · have hv : specV fs ps cp fu = (filesOk fs && decide (totalI fs ≤ cp) && cacheS cp ps fs) := by
      unfold specV; rw [hfl, hpl, hh]; simp
    rw [hv]
    simp only [headB, Bool.and_eq_true, decide_eq_true_eq] at hh
    exact specValid_main a n c fs b m d ps cp fu de w A B hB hF hP hall hh.1.1.1 hh.1.1.2 hh.1.2 hh.2
end Go.Proofs.YtnpndbicmamggaaGreat
