import Derived.Test.YtmmdkjeoadlikaaCen
namespace Go.Proofs.Ytmmdkjeoadlikaa
open Go.RowKit Go.Maps
set_option linter.unusedVariables false
set_option maxRecDepth 100000

def CFRes (w w' : World) (fs : List PF) (mb : Nat) (t : Int) (ok : Bool) : Prop :=
  ok = (decide (fs.length ≤ 12) && filesOk fs) ∧ w.heap.size ≤ mb ∧ (ok = true → t = totalI fs ∧ ∃ D, MapAt w' mb fs.length D ∧ Rep D fs) ∧ Below w.heap.size w w'

theorem two_cells {wr : World} {N : Nat} {v0 v1 : Value} {t : TypeId} (h : wr.heap[N]? = some (.cells #[v0, v1] t)) : (wr.cell? ⟨N, 0, none⟩ = some v0 ∧ wr.cell? ⟨N, 1, none⟩ = some v1) ∧ wr.frozen? ⟨N, 0, none⟩ = false ∧ wr.frozen? ⟨N, 1, none⟩ = false := by
  refine ⟨⟨?_, ?_⟩, frozen_of_row wr N 0 _ _ h, frozen_of_row wr N 1 _ _ h⟩
  · rw [cell_of_row wr N 0 _ _ _ h]; rfl
  · rw [cell_of_row wr N 1 _ _ _ h]; rfl
theorem fok_false {fs : List PF} {k : Nat} (hk : k < fs.length) (h : fileOk fs k = false) : false = (decide (fs.length ≤ 12) && filesOk fs) := by rw [filesOk_no hk h]; simp

set_option maxHeartbeats 2000000 in
theorem countFiles_any (a : Option Addr) (n c : Nat) (fs : List PF) (w : World) (A B : Nat) (hB : B ≤ w.heap.size) (hF : FilesAt w A B a n c fs) (hall : ∀ j, j < n → (fs.getD j (ByteArray.empty, [])).2.length ≤ 1048576) :
    Calls Try.prog 86 #[.slice a n c] w fun e w' => ∃ (mb : Nat) (t : Int) (ok : Bool), e = .returned (.tuple #[.agg #[.map (some mb), .int .i64 t], .bool ok]) ∧ CFRes w w' fs mb t ok := by
  have hmm := @run_makeMap Try.prog
  obtain ⟨hl, hnc, hc, hcell⟩ := hF
  unfold maxLen at hc
  have hb0 : Below w.heap.size w (((w.alloc (.cells #[.map none, .int .i64 0] 99)).alloc (.map #[] 0)).alloc (.cells #[.map (some (w.heap.size + 1)), .int .i64 0] 99)) := (((Below.refl _ _).alloc (Nat.le_refl _) _).alloc (by simp) _).alloc (by simp; omega) _
  by_cases h12 : 12 < n
  · have d1 : decide ((12 : Int) < (n : Int)) = true := by simp; omega
    go_enter Try.func86, Try.ntmps86
    go_wp2
    exact bodyPost_ret (v := .tuple #[.agg #[.map (some (w.heap.size + 1)), .int .i64 0], .bool false]) (by simp [results, Try.results86, go_sem]) rfl ⟨w.heap.size + 1, 0, false, rfl, by rw [show decide (fs.length ≤ 12) = false by simp; omega]; simp, by omega, (fun h => by cases h), (((Below.refl _ _).alloc (Nat.le_refl _) _).alloc (by simp) _).alloc (by simp; omega) _⟩
  · have d1 : decide ((12 : Int) < (n : Int)) = false := by simp; omega
    go_enter Try.func86, Try.ntmps86
    go_wp2
    clear d1
    go_loopw [5, 6, 15] (fun iv fv i wr => ∃ (k : Nat) (D : DataW Unit), k ≤ n ∧ i = .int .i64 k ∧ Hid (∀ j, j < k → fileOk fs j = true) ∧ Hid (wr.heap[w.heap.size]? = some (.cells #[.map none, .int .i64 0] 99)) ∧ Hid (wr.heap[w.heap.size + 1 + 1]? = some (.cells #[.map (some (w.heap.size + 1)), .int .i64 (totalI (fs.take k))] 99)) ∧ MapAt wr (w.heap.size + 1) k D ∧ Rep D (fs.take k) ∧ Below w.heap.size w wr) (fun _ _ i _ => n - (intOf i).toNat)
    case atStart =>
      refine ⟨0, .map [], Nat.zero_le _, rfl, fun j hj => absurd hj (Nat.not_lt_zero _), ?_, ?_, ?_, Rep.empty, hb0⟩
      · show _ = _
        rw [Below.heap_alloc _ _ _ (by simp; omega), Below.heap_alloc _ _ _ (by simp)]; exact heap_alloc_new w _
      · have := heap_alloc_new ((w.alloc (.cells #[.map none, .int .i64 0] 99)).alloc (.map #[] 0)) (.cells #[.map (some (w.heap.size + 1)), .int .i64 0] 99)
        simpa [totalI, Hid] using this
      · have := World.ownsMap_made (H := Unit) (w.alloc (.cells #[.map none, .int .i64 0] 99)) Try.prog 9 (plainElem Try.prog 2)
        have h2 := this.alloc (.cells #[.map (some (w.heap.size + 1)), .int .i64 0] 99)
        simpa [MapAt] using h2
    case round =>
      obtain ⟨k, D, hk, rfl, hok, hR, hCB, hM, hRep, hbel⟩ := hrel
      have hRl : w.heap.size < wr.heap.size := (Array.getElem?_eq_some_iff.1 hR.out).1
      have hCl : w.heap.size + 1 + 1 < wr.heap.size := (Array.getElem?_eq_some_iff.1 hCB.out).1
      obtain ⟨⟨r0, r1⟩, fr0, fr1⟩ := two_cells hR.out
      obtain ⟨⟨m0, m1⟩, fm0, fm1⟩ := two_cells hCB.out
      by_cases hlt : k < n
      · obtain ⟨ab, aoff, rfl, hab, hcb⟩ := hcell (by omega)
        have e1 := (hcb k hlt).below hab (hbel.mono hB)
        obtain ⟨f, hf⟩ : ∃ f, f = fs.getD k (ByteArray.empty, []) := ⟨_, rfl⟩
        have HFO : Hid (fileOk fs k = (nameB f.1 && !(f.2.length == 0) && (f.2.length % 128 == 0) && !(decide (0 < k) && geB (fs.getD (k - 1) (ByteArray.empty, [])).1 f.1))) := fileOk_eq hf
        have HF : Hid (f = fs.getD k (ByteArray.empty, [])) := hf
        have hall1 := hall k hlt
        rw [← hf] at e1 hall1
        obtain ⟨p1, p2, pa, pn, pc, p3, p4⟩ := e1
        have hpn := p4.1
        rw [hpn] at hall1 HFO
        have hbk : ab < wr.heap.size := by have := hbel.size; omega
        clear hf
        by_cases t4 : 0 < k
        · obtain ⟨g1, _, _⟩ := (hcb (k - 1) (by omega)).below hab (hbel.mono hB)
          obtain ⟨pf, hpf⟩ : ∃ pf, pf = fs.getD (k - 1) (ByteArray.empty, []) := ⟨_, rfl⟩
          rw [← hpf] at HFO g1
          clear hpf
          have s4 : decide ((0 : Int) < (k : Int)) = true := by simp; omega
          by_cases t5 : geB pf.1 f.1 = true
          · have HB : Hid (false = (decide (fs.length ≤ 12) && filesOk fs)) := fok_false (k := k) (by omega) (by rw [HFO.out]; simp [t4, t5])
            have s5 : Op.bytesLess pf.1.toList f.1.toList = false := by simpa [geB] using t5
            clear hcb hcell hall p4
            go_wp2_with fail
            go_quiet (fail)
            go_wp2_with (go_at_call 57; refine (isName_any _ _ p2).mono ?_; rintro e w1 ⟨rfl, rfl⟩)
            exact bodyPost_ret (v := .tuple #[.agg #[.map (some (w.heap.size + 1)), .int .i64 (totalI (fs.take k))], .bool false]) (by simp [results, Try.results86, go_sem, hRl, r0, r1]) rfl ⟨w.heap.size + 1, totalI (fs.take k), false, rfl, HB.out, by omega, (fun h => by cases h), ((below_dn hbel hbel.size).setCell (Nat.le_refl _) _).setCell (Nat.le_refl _) _⟩
          · have s5 : Op.bytesLess pf.1.toList f.1.toList = true := by simpa [geB] using t5
            have G4 : Hid ((decide (0 < k) && geB pf.1 f.1) = false) := by show _ = _; simp [t5]
            by_cases t1 : nameB f.1 = true
            · by_cases t2 : pn = 0
              · have HB : Hid (false = (decide (fs.length ≤ 12) && filesOk fs)) := fok_false (k := k) (by omega) (by rw [HFO.out]; simp [t2])
                have s2 : ((pn : Int) == 0) = true := by simp [t2]
                clear hcb hcell hall p4
                go_wp2_with fail
                go_quiet (fail)
                go_wp2_with (go_at_call 57; refine (isName_any _ _ p2).mono ?_; rintro e w1 ⟨rfl, rfl⟩)
                exact bodyPost_ret (v := .tuple #[.agg #[.map (some (w.heap.size + 1)), .int .i64 (totalI (fs.take k))], .bool false]) (by simp [results, Try.results86, go_sem, hRl, r0, r1]) rfl ⟨w.heap.size + 1, totalI (fs.take k), false, rfl, HB.out, by omega, (fun h => by cases h), ((below_dn hbel hbel.size).setCell (Nat.le_refl _) _).setCell (Nat.le_refl _) _⟩
              · by_cases t3 : pn % 128 = 0
                · have HOK : Hid (∀ i, i < k + 1 → fileOk fs i = true) := by
                    intro j hj
                    by_cases hjk : j = k
                    · subst hjk; rw [HFO.out, G4.out]; simp [t1, t2, t3]
                    · exact hok.out j (by omega)
                  obtain ⟨e0, hRep2⟩ := Rep.file hRep (by omega) HOK.out HF.out
                  have hat := hRep.at_ f.1
                  rw [e0] at hat
                  have htt : totalI (fs.take (k + 1)) = totalI (fs.take k) + (pn : Int) / 128 := by
                    rw [take_snocD fs k (ByteArray.empty, []) (by omega), totalI_append, ← HF.out]; simp [totalI, hpn]
                  have htb := totalI_bd (fs.take k)
                  have htb2 : totalI (fs.take k) ≤ 12 * 1048576 := by
                    have := totalI_small (fs := fs) (K := 1048576) (fun j hj => hall j (by omega))
                    have h3 := totalI_take_le fs k
                    have h12' : ((fs.length : Int)) ≤ 12 := by omega
                    omega
                  have HTT : Hid (totalI (fs.take (k + 1)) = totalI (fs.take k) + (pn : Int) / 128) := htt
                  have HR2 : Hid (Rep (D.put (keyL f.1) (.lit (.int .i64 ((f.2.length : Int) / 128)))) (fs.take (k + 1))) := hRep2
                  have HATT : Hid (D.atKey (keyL f.1) (.lit (.int .i64 0)) = .lit (.int .i64 0)) := hat
                  have s2 : ((pn : Int) == 0) = false := by simp [t2]
                  have s3 : ((pn : Int) % 128 != 0) = false := by simp; omega
                  have s3t : ((pn : Int).tmod 128 != 0) = false := by rw [Int.tmod_eq_emod_of_nonneg (by omega)]; exact s3
                  clear hcb hcell hall p4 htt hRep2 hat e0 hRep
                  generalize totalI (fs.take k) = tk at *
                  go_wp2_with fail
                  go_quiet (fail)
                  go_wp2_with (first | (go_at_call 57; refine (isName_any _ _ p2).mono ?_; rintro e w1 ⟨rfl, rfl⟩) | fail)
                  have hX : Below wr.heap.size wr ((wr.alloc (.cells #[.string f.1, .slice pa pn pc] 83)).drewN nq) := below_dn (Below.refl _ _) (Nat.le_refl _)
                  refine (add_any f.1 ((pn : Int) / 128) 0 tk (w.heap.size + 1 + 1) (w.heap.size + 1) k D ((wr.alloc (.cells #[.string f.1, .slice pa pn pc] 83)).drewN nq) ((hX.block _ hCl).trans hCB.out) (hM.keep (hX.block _ (by omega))) (by omega) HATT.out p2 (by omega) (by omega) (by omega) (by omega) (by omega) (by omega)).mono ?_
                  rintro e w3 ⟨rfl, hc3, hm3, ht3⟩
                  have hR3 : Hid (w3.heap[w.heap.size]? = some (.cells #[.map none, .int .i64 0] 99)) := (ht3.block _ (Nat.lt_of_lt_of_le hRl hX.size) (by omega) (by omega)).trans ((hX.block _ hRl).trans hR.out)
                  have hC3 : Hid (w3.heap[w.heap.size + 1 + 1]? = some (.cells #[.map (some (w.heap.size + 1)), .int .i64 (totalI (fs.take (k + 1)))] 99)) := by show _ = _; rw [HTT.out]; exact hc3
                  have hRp3 : Rep (D.put (keyL f.1) (.lit (.int .i64 (0 + (pn : Int) / 128)))) (fs.take (k + 1)) := by rw [Int.zero_add]; have := HR2.out; rw [hpn] at this; exact this
                  have hb3 : Below w.heap.size w w3 := (hbel.trans (hX.mono (by omega))).trans (ht3.below (Nat.le_trans (by omega) hX.size) (by omega) (by omega))
                  clear hc3 ht3 hX hM hbel hCB hR m0 m1 fm0 fm1 r0 r1 fr0 fr1
                  go_wp2
                  go_roundw
                  case rel => exact ⟨k + 1, _, by omega, by go_num, HOK, hR3, hC3, hm3, hRp3, hb3⟩
                  case measure => simp [intOf]; omega
                · have HB : Hid (false = (decide (fs.length ≤ 12) && filesOk fs)) := fok_false (k := k) (by omega) (by rw [HFO.out]; simp [t3])
                  have s2 : ((pn : Int) == 0) = false := by simp [t2]
                  have s3 : ((pn : Int) % 128 != 0) = true := by simp; omega
                  have s3t : ((pn : Int).tmod 128 != 0) = true := by rw [Int.tmod_eq_emod_of_nonneg (by omega)]; exact s3
                  clear hcb hcell hall p4
                  go_wp2_with fail
                  go_quiet (fail)
                  go_wp2_with (go_at_call 57; refine (isName_any _ _ p2).mono ?_; rintro e w1 ⟨rfl, rfl⟩)
                  exact bodyPost_ret (v := .tuple #[.agg #[.map (some (w.heap.size + 1)), .int .i64 (totalI (fs.take k))], .bool false]) (by simp [results, Try.results86, go_sem, hRl, r0, r1]) rfl ⟨w.heap.size + 1, totalI (fs.take k), false, rfl, HB.out, by omega, (fun h => by cases h), ((below_dn hbel hbel.size).setCell (Nat.le_refl _) _).setCell (Nat.le_refl _) _⟩
            · have t1' : nameB f.1 = false := by simpa using t1
              have HB : Hid (false = (decide (fs.length ≤ 12) && filesOk fs)) := fok_false (k := k) (by omega) (by rw [HFO.out]; simp [t1'])
              clear hcb hcell hall p4
              go_wp2_with fail
              go_quiet (fail)
              go_wp2_with (go_at_call 57; refine (isName_any _ _ p2).mono ?_; rintro e w1 ⟨rfl, rfl⟩)
              exact bodyPost_ret (v := .tuple #[.agg #[.map (some (w.heap.size + 1)), .int .i64 (totalI (fs.take k))], .bool false]) (by simp [results, Try.results86, go_sem, hRl, r0, r1]) rfl ⟨w.heap.size + 1, totalI (fs.take k), false, rfl, HB.out, by omega, (fun h => by cases h), ((below_dn hbel hbel.size).setCell (Nat.le_refl _) _).setCell (Nat.le_refl _) _⟩
        · have s4 : decide ((0 : Int) < (k : Int)) = false := by simp; omega
          have G4 : Hid ((decide (0 < k) && geB (fs.getD (k - 1) (ByteArray.empty, [])).1 f.1) = false) := by show _ = _; simp [t4]
          by_cases t1 : nameB f.1 = true
          · by_cases t2 : pn = 0
            · have HB : Hid (false = (decide (fs.length ≤ 12) && filesOk fs)) := fok_false (k := k) (by omega) (by rw [HFO.out]; simp [t2])
              have s2 : ((pn : Int) == 0) = true := by simp [t2]
              clear hcb hcell hall p4
              go_wp2_with fail
              go_quiet (fail)
              go_wp2_with (go_at_call 57; refine (isName_any _ _ p2).mono ?_; rintro e w1 ⟨rfl, rfl⟩)
              exact bodyPost_ret (v := .tuple #[.agg #[.map (some (w.heap.size + 1)), .int .i64 (totalI (fs.take k))], .bool false]) (by simp [results, Try.results86, go_sem, hRl, r0, r1]) rfl ⟨w.heap.size + 1, totalI (fs.take k), false, rfl, HB.out, by omega, (fun h => by cases h), ((below_dn hbel hbel.size).setCell (Nat.le_refl _) _).setCell (Nat.le_refl _) _⟩
            · by_cases t3 : pn % 128 = 0
              · have HOK : Hid (∀ i, i < k + 1 → fileOk fs i = true) := by
                  intro j hj
                  by_cases hjk : j = k
                  · subst hjk; rw [HFO.out, G4.out]; simp [t1, t2, t3]
                  · exact hok.out j (by omega)
                obtain ⟨e0, hRep2⟩ := Rep.file hRep (by omega) HOK.out HF.out
                have hat := hRep.at_ f.1
                rw [e0] at hat
                have htt : totalI (fs.take (k + 1)) = totalI (fs.take k) + (pn : Int) / 128 := by
                  rw [take_snocD fs k (ByteArray.empty, []) (by omega), totalI_append, ← HF.out]; simp [totalI, hpn]
                have htb := totalI_bd (fs.take k)
                have htb2 : totalI (fs.take k) ≤ 12 * 1048576 := by
                  have := totalI_small (fs := fs) (K := 1048576) (fun j hj => hall j (by omega))
                  have h3 := totalI_take_le fs k
                  have h12' : ((fs.length : Int)) ≤ 12 := by omega
                  omega
                have HTT : Hid (totalI (fs.take (k + 1)) = totalI (fs.take k) + (pn : Int) / 128) := htt
                have HR2 : Hid (Rep (D.put (keyL f.1) (.lit (.int .i64 ((f.2.length : Int) / 128)))) (fs.take (k + 1))) := hRep2
                have HATT : Hid (D.atKey (keyL f.1) (.lit (.int .i64 0)) = .lit (.int .i64 0)) := hat
                have s2 : ((pn : Int) == 0) = false := by simp [t2]
                have s3 : ((pn : Int) % 128 != 0) = false := by simp; omega
                have s3t : ((pn : Int).tmod 128 != 0) = false := by rw [Int.tmod_eq_emod_of_nonneg (by omega)]; exact s3
                clear hcb hcell hall p4 htt hRep2 hat e0 hRep
                generalize totalI (fs.take k) = tk at *
                go_wp2_with fail
                go_quiet (fail)
                go_wp2_with (first | (go_at_call 57; refine (isName_any _ _ p2).mono ?_; rintro e w1 ⟨rfl, rfl⟩) | fail)
                have hX : Below wr.heap.size wr ((wr.alloc (.cells #[.string f.1, .slice pa pn pc] 83)).drewN nq) := below_dn (Below.refl _ _) (Nat.le_refl _)
                refine (add_any f.1 ((pn : Int) / 128) 0 tk (w.heap.size + 1 + 1) (w.heap.size + 1) k D ((wr.alloc (.cells #[.string f.1, .slice pa pn pc] 83)).drewN nq) ((hX.block _ hCl).trans hCB.out) (hM.keep (hX.block _ (by omega))) (by omega) HATT.out p2 (by omega) (by omega) (by omega) (by omega) (by omega) (by omega)).mono ?_
                rintro e w3 ⟨rfl, hc3, hm3, ht3⟩
                have hR3 : Hid (w3.heap[w.heap.size]? = some (.cells #[.map none, .int .i64 0] 99)) := (ht3.block _ (Nat.lt_of_lt_of_le hRl hX.size) (by omega) (by omega)).trans ((hX.block _ hRl).trans hR.out)
                have hC3 : Hid (w3.heap[w.heap.size + 1 + 1]? = some (.cells #[.map (some (w.heap.size + 1)), .int .i64 (totalI (fs.take (k + 1)))] 99)) := by show _ = _; rw [HTT.out]; exact hc3
                have hRp3 : Rep (D.put (keyL f.1) (.lit (.int .i64 (0 + (pn : Int) / 128)))) (fs.take (k + 1)) := by rw [Int.zero_add]; have := HR2.out; rw [hpn] at this; exact this
                have hb3 : Below w.heap.size w w3 := (hbel.trans (hX.mono (by omega))).trans (ht3.below (Nat.le_trans (by omega) hX.size) (by omega) (by omega))
                clear hc3 ht3 hX hM hbel hCB hR m0 m1 fm0 fm1 r0 r1 fr0 fr1
                go_wp2
                go_roundw
                case rel => exact ⟨k + 1, _, by omega, by go_num, HOK, hR3, hC3, hm3, hRp3, hb3⟩
                case measure => simp [intOf]; omega
              · have HB : Hid (false = (decide (fs.length ≤ 12) && filesOk fs)) := fok_false (k := k) (by omega) (by rw [HFO.out]; simp [t3])
                have s2 : ((pn : Int) == 0) = false := by simp [t2]
                have s3 : ((pn : Int) % 128 != 0) = true := by simp; omega
                have s3t : ((pn : Int).tmod 128 != 0) = true := by rw [Int.tmod_eq_emod_of_nonneg (by omega)]; exact s3
                clear hcb hcell hall p4
                go_wp2_with fail
                go_quiet (fail)
                go_wp2_with (go_at_call 57; refine (isName_any _ _ p2).mono ?_; rintro e w1 ⟨rfl, rfl⟩)
                exact bodyPost_ret (v := .tuple #[.agg #[.map (some (w.heap.size + 1)), .int .i64 (totalI (fs.take k))], .bool false]) (by simp [results, Try.results86, go_sem, hRl, r0, r1]) rfl ⟨w.heap.size + 1, totalI (fs.take k), false, rfl, HB.out, by omega, (fun h => by cases h), ((below_dn hbel hbel.size).setCell (Nat.le_refl _) _).setCell (Nat.le_refl _) _⟩
          · have t1' : nameB f.1 = false := by simpa using t1
            have HB : Hid (false = (decide (fs.length ≤ 12) && filesOk fs)) := fok_false (k := k) (by omega) (by rw [HFO.out]; simp [t1'])
            clear hcb hcell hall p4
            go_wp2_with fail
            go_quiet (fail)
            go_wp2_with (go_at_call 57; refine (isName_any _ _ p2).mono ?_; rintro e w1 ⟨rfl, rfl⟩)
            exact bodyPost_ret (v := .tuple #[.agg #[.map (some (w.heap.size + 1)), .int .i64 (totalI (fs.take k))], .bool false]) (by simp [results, Try.results86, go_sem, hRl, r0, r1]) rfl ⟨w.heap.size + 1, totalI (fs.take k), false, rfl, HB.out, by omega, (fun h => by cases h), ((below_dn hbel hbel.size).setCell (Nat.le_refl _) _).setCell (Nat.le_refl _) _⟩
      · have HE : Hid (true = (decide (fs.length ≤ 12) && filesOk fs)) := by
          show _ = _
          rw [filesOk_yes (fun j hj => hok.out j (by omega)), show decide (fs.length ≤ 12) = true by simp; omega]; rfl
        have hk' : fs.take k = fs := List.take_of_length_le (by omega)
        rw [hk'] at hRep
        have HT : Hid (totalI (fs.take k) = totalI fs) := by show _ = _; rw [hk']
        have hkn : k = fs.length := by omega
        generalize totalI (fs.take k) = tk at *
        clear hk'
        go_wp2
        refine bodyPost_ret (v := .tuple #[.agg #[.map (some (w.heap.size + 1)), .int .i64 tk], .bool true]) (by simp [results, Try.results86, go_sem, r0, r1]) rfl ⟨w.heap.size + 1, tk, true, rfl, HE.out, by omega, fun _ => ⟨HT.out, D, ?_, hRep⟩, (hbel.setCell (Nat.le_refl _) _).setCell (Nat.le_refl _) _⟩
        rw [← hkn]
        refine hM.keep ?_
        rw [Below.heap_setCell _ _ _ _ (by show w.heap.size + 1 ≠ w.heap.size; omega), Below.heap_setCell _ _ _ _ (by show w.heap.size + 1 ≠ w.heap.size; omega)]
end Go.Proofs.Ytmmdkjeoadlikaa
