import Derived.Test.YtmmdkjeoadlikaaOwn
namespace Go.Proofs.Ytmmdkjeoadlikaa
open Go.RowKit
set_option linter.unusedVariables false
set_option maxRecDepth 100000

set_option maxHeartbeats 1000000 in
theorem l1Files_any (a : Option Addr) (n c : Nat) (fs : List PF) (w : World) (A B : Nat) (hB : B ≤ w.heap.size) (h : FilesAt w A B a n c fs) (hn : n ≤ 1048576) (hall : ∀ j, j < n → (fs.getD j (ByteArray.empty, [])).2.length ≤ 1048576) :
    Calls Try.prog 65 #[.slice a n c] w fun e w' => ∃ v xs vs, e = .returned v ∧ OwnF w' w.heap.size v fs xs vs ∧ Below w.heap.size w w' := by
  obtain ⟨hl, hnc, hc, hcell⟩ := h
  obtain ⟨i0, hi, hz0, hz1, hz2⟩ := info_parts info_File
  go_enter Try.func65, Try.ntmps65
  go_wp2
  have hown : (w.alloc (.cells #[] 83)).ownsRow w.heap.size 83 2 (.slice (some ⟨w.heap.size, 0, none⟩) 0 0) 0 [] := World.ownsRow_made w #[] 0 (Nat.le_refl _) (by unfold maxLen; omega) (by simp)
  go_loopw [3, 4] (fun v i wr => ∃ (k : Nat) (xs vs : List Value), k ≤ n ∧ i = .int .i64 k ∧ OwnF wr w.heap.size v (fs.take k) xs vs ∧ Below w.heap.size w wr) (fun _ i _ => n - (intOf i).toNat)
  case atStart => exact ⟨0, [], [], Nat.zero_le _, rfl, OwnF.nil hown, (Below.refl _ _).alloc (Nat.le_refl _) _⟩
  case round =>
    clear hown
    obtain ⟨k, xs, vs, hk, rfl, hO, hbel⟩ := hrel
    by_cases hlt : k < n
    · obtain ⟨b, off, rfl, hb, hcb⟩ := hcell (by omega)
      have e1 := (hcb k hlt).below hb (hbel.mono hB)
      have e2 := hall k hlt
      have hsn := take_snocD fs k (ByteArray.empty, []) (by omega)
      clear hcell hcb hall
      obtain ⟨f, hf⟩ : ∃ f, f = fs.getD k (ByteArray.empty, []) := ⟨_, rfl⟩
      rw [← hf] at e1 e2 hsn
      have HS : Hid (fs.take (k + 1) = fs.take k ++ [f]) := hsn
      clear hf hsn
      obtain ⟨p1, p2, pa, pn, pc, p3, p4⟩ := e1
      have hs := hbel.size
      have hkl : (fs.take k).length = k := by simp; omega
      have hrow := hO.row
      rw [hkl] at hrow
      have hpl := p4.1
      have hbk : b < wr.heap.size := by omega
      go_wp2
      go_region_law (first | (refine step_append_own rfl (.tmp 12) (.tmp 25) 29 rfl w.heap.size 83 i0 _ 2 40 Try.underlying29 hi hz0 hz1 hz2 rfl (by decide) u3 k xs (by simp [Act.eval]) ((owns_below hrow hb1).alloc _) ⟨w1.heap.size, 0, none⟩ 1 1 [.string f.1, .slice va pn vc] (by simp [Act.eval]) rfl (cell_two_new _ _ _ _) (by simp [Value.oneCell']) (by unfold maxLen; omega) (by omega) (by simp; omega) ?_; intro v' w2 hown' hgr) | (go_simp; go_at_call 48; refine (l1Bytes_any _ _ _ f.2 wr.drew A B (Nat.le_trans hB hs) p4 (by omega)).mono ?_; rintro e w1 ⟨va, vc, rfl, hvb, hb1⟩; replace hb1 : Below wr.heap.size wr w1 := ((Below.refl _ wr).drew).trans hb1; have hy1 := hb1.size; have q1 : w1.cell? ⟨b, off + k * 2, none⟩ = some (.string f.1) := (hb1.cell (p := ⟨b, off + k * 2, none⟩) hbk).trans p1))
      all_goals
        have hb2 : Below w1.heap.size w1 (w1.alloc (.cells #[.string f.1, .slice va pn vc] 83)) := (Below.refl _ _).alloc (Nat.le_refl _) _
        have R : OwnF w2 w.heap.size v' (fs.take (k + 1)) (xs ++ [.string f.1, .slice va pn vc]) (vs ++ [.slice va pn vc]) := by
          rw [HS.out]
          exact OwnF.push hO hs hb1 (by rw [hpl]; exact hvb) p2 p4.2.2.2.1 hb2 (by rw [hkl]; exact hown') hgr
        have hb3 : Below w.heap.size w w2 := ((hbel.trans (hb1.mono hs)).trans (hb2.mono (by omega))).grown hgr (by simp; omega) (fun g hg => (hO.row.lt g hg).1)
        clear hown' hgr hvb hb1 hb2 hrow hO
        go_wp2
        go_roundw
        case rel => exact ⟨k + 1, _, _, by omega, by go_num, R, hb3⟩
        case measure => simp [intOf]; omega
    · go_wp2
      go_ret
      exact ⟨u3, xs, vs, rfl, by rw [show fs.take k = fs from List.take_of_length_le (by omega)] at hO; exact hO, hbel⟩
end Go.Proofs.Ytmmdkjeoadlikaa
