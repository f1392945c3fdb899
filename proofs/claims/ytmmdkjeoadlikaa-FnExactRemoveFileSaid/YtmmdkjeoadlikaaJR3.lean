import Derived.Test.YtmmdkjeoadlikaaTo
import Derived.Test.YtmmdkjeoadlikaaEq
import Derived.Test.YtmmdkjeoadlikaaSz
import Derived.Test.YtmmdkjeoadlikaaWl
import Derived.Test.YtmmdkjeoadlikaaWd
import Derived.Test.YtmmdkjeoadlikaaWdR
import Derived.Test.YtmmdkjeoadlikaaSeen
import Derived.Test.YtmmdkjeoadlikaaJR1
namespace Go.Proofs.Ytmmdkjeoadlikaa
open Go.RowKit Go.Maps
set_option linter.unusedVariables false
set_option maxRecDepth 100000

theorem box5' {wr : World} {N : Nat} {v0 v1 v2 v3 v4 : Value} {t : TypeId} (h : wr.heap[N]? = some (.cells #[v0, v1, v2, v3, v4] t)) : wr.cell? ⟨N, 0, none⟩ = some v0 ∧ wr.cell? ⟨N, 1, none⟩ = some v1 ∧ wr.cell? ⟨N, 2, none⟩ = some v2 ∧ wr.cell? ⟨N, 3, none⟩ = some v3 ∧ wr.cell? ⟨N, 4, none⟩ = some v4 := by
  refine ⟨?_, ?_, ?_, ?_, ?_⟩
  · rw [cell_of_row wr N 0 _ _ _ h]; rfl
  · rw [cell_of_row wr N 1 _ _ _ h]; rfl
  · rw [cell_of_row wr N 2 _ _ _ h]; rfl
  · rw [cell_of_row wr N 3 _ _ _ h]; rfl
  · rw [cell_of_row wr N 4 _ _ _ h]; rfl

/-- How many pages a file has as seen, or -1. -/
def pageC (fs : List PF) (ps : List PP) (cp fu : Int) (nm : ByteArray) : Int :=
  if implV fs ps cp fu = true then (if findN (lastF ps fs) nm < (lastF ps fs).length then lenI (lastF ps fs) nm else -1) else -1
theorem inv_last : ∀ (ps : List PP) (fs : List PF), Inv fs → Inv (lastF ps fs)
  | [], _, h => h
  | p :: r, fs, h => by
    simp only [lastF]
    exact inv_last r _ (doP_inv h)
theorem specV_parts {fs : List PF} {ps : List PP} {cp fu : Int} (h : specV fs ps cp fu = true) : fs.length ≤ 12 ∧ cp ≤ 1000 ∧ totalI fs ≤ cp ∧ cacheS cp ps fs = true ∧ filesOk fs = true := by
  simp only [specV, headB, Bool.and_eq_true, decide_eq_true_eq] at h
  obtain ⟨⟨⟨⟨⟨⟨a1, a2⟩, a3⟩, a4⟩, a5⟩, a6⟩, a7⟩ := h
  exact ⟨a1, a2.2, a6, a7, a5⟩

set_option maxHeartbeats 1000000 in
theorem implPageCount_any (a : Option Addr) (n c : Nat) (fs : List PF) (b : Option Addr) (m d : Nat) (ps : List PP) (cp fu : Int) (de : Bool) (nm : ByteArray) (w : World) (A B : Nat) (hB : B ≤ w.heap.size) (hF : FilesAt w A B a n c fs) (hP : PendsAt w A B b m d ps) (hs : nm.size ≤ maxLen)
    (hall : ∀ j, j < n → (fs.getD j (ByteArray.empty, [])).2.length ≤ 1048576) :
    Calls Try.prog 79 #[.agg #[.slice a n c, .slice b m d, .int .i64 cp, .int .i64 fu, .bool de], .string nm] w fun e w' => e = .returned (.int .i64 (pageC fs ps cp fu nm)) ∧ Below w.heap.size w w' := by
  have hb0 : Below w.heap.size w (w.alloc (.cells #[.slice a n c, .slice b m d, .int .i64 cp, .int .i64 fu, .bool de] 32)) := (Below.refl _ _).alloc (Nat.le_refl _) _
  go_enter Try.func79, Try.ntmps79
  go_wp2_with fail
  refine (countSeen_any _ _ _ fs _ _ _ ps _ _ _ _ A B (by simp; omega) (hF.below (hb0.mono hB)) (hP.below (hb0.mono hB)) hall).mono ?_
  rintro e w1 ⟨r, t, ok, rfl, hok, hb1, hyes⟩
  have hg1 := hb0.trans (hb1.mono (by simp))
  have hz1 : w.heap.size + 1 ≤ w1.heap.size := by simpa using hb1.size
  cases ok with
  | false =>
    have HR : Hid (pageC fs ps cp fu nm = -1) := by show _ = _; unfold pageC; rw [← hok]; simp
    clear hok hyes
    go_wp2_with fail
    go_ret
    exact ⟨ret_int HR.out.symm, hg1.alloc (by omega) _⟩
  | true =>
    obtain ⟨ht, mb, k, D, rfl, hmb, hM, hR⟩ := hyes rfl
    have hI : Inv (lastF ps fs) := by
      refine inv_last _ _ (inv_all ?_)
      have h2 := hok
      simp only [implV, Bool.true_eq, Bool.and_eq_true] at h2
      exact h2.1.1.2
    have hl0 := (lenI_le_total (lastF ps fs) nm).1
    have hlk := look_at (w := w1.alloc (.cells #[.map (some mb), .int .i64 t] 99)) (hM.keep (Below.heap_alloc _ _ _ hM.lt)) hR hs 0
    have hlk' : (Instr.lookup 97 (.map (some mb)) (.string nm) false).run Try.prog (w1.alloc (.cells #[.map (some mb), .int .i64 t] 99)) = .ok (.int .i64 (lenI (lastF ps fs) nm)) (w1.alloc (.cells #[.map (some mb), .int .i64 t] 99)) := hlk
    have HPC : Hid (pageC fs ps cp fu nm = if lenI (lastF ps fs) nm = 0 then -1 else lenI (lastF ps fs) nm) := by
      show _ = _
      unfold pageC
      rw [if_pos hok.symm]
      by_cases hf : findN (lastF ps fs) nm < (lastF ps fs).length
      · have := lenI_pos hI hf
        rw [if_pos hf, if_neg (by omega)]
      · rw [if_neg hf, lenI_none hf]; rfl
    clear hlk hok hyes hI hM hR ht
    generalize lenI (lastF ps fs) nm = ln at *
    by_cases t1 : ln = 0
    · have s1 : (ln == 0) = true := by simp [t1]
      have HR : Hid (pageC fs ps cp fu nm = -1) := by show _ = _; rw [HPC.out, if_pos t1]
      clear t1
      go_wp2_with fail
      go_ret
      exact ⟨ret_int HR.out.symm, hg1.alloc (by omega) _⟩
    · have s1 : (ln == 0) = false := by simp [t1]
      have HR : Hid (pageC fs ps cp fu nm = ln) := by show _ = _; rw [HPC.out, if_neg t1]
      go_wp2_with fail
      go_ret
      exact ⟨ret_int HR.out.symm, hg1.alloc (by omega) _⟩
end Go.Proofs.Ytmmdkjeoadlikaa
namespace Go.Proofs.Ytmmdkjeoadlikaa
open Go.RowKit Go.Maps
set_option linter.unusedVariables false
set_option maxRecDepth 100000

/-- What the program says to a step on a file: 0 or 1. -/
def rfI (fs : List PF) (ps : List PP) (cp fu : Int) (de : Bool) (nm : ByteArray) : Int :=
  if de = false ∧ ps.length = 0 ∧ implV fs ps cp fu = true ∧ findN fs nm < fs.length then 0 else 1
theorem pageC_nil {fs : List PF} {ps : List PP} {cp fu : Int} {nm : ByteArray} (h : ps.length = 0) : pageC fs ps cp fu nm < 0 ↔ ¬ (implV fs ps cp fu = true ∧ findN fs nm < fs.length) := by
  obtain rfl : ps = [] := List.length_eq_zero_iff.1 h
  show (if implV fs [] cp fu = true then (if findN fs nm < fs.length then lenI fs nm else -1) else -1) < 0 ↔ _
  have := (lenI_le_total fs nm).1
  by_cases h1 : implV fs [] cp fu = true
  · by_cases h2 : findN fs nm < fs.length
    · rw [if_pos h1, if_pos h2]; simp [h1, h2]; omega
    · rw [if_pos h1, if_neg h2]; simp [h2]
  · rw [if_neg h1]; simp [h1]
set_option maxHeartbeats 800000 in
theorem refuseFile_any (a : Option Addr) (n c : Nat) (fs : List PF) (b : Option Addr) (m d : Nat) (ps : List PP) (cp fu : Int) (de : Bool) (nm : ByteArray) (w : World) (A B : Nat) (hB : B ≤ w.heap.size) (hF : FilesAt w A B a n c fs) (hP : PendsAt w A B b m d ps) (hs : nm.size ≤ maxLen)
    (hall : ∀ j, j < n → (fs.getD j (ByteArray.empty, [])).2.length ≤ 1048576) :
    Calls Try.prog 56 #[.agg #[.slice a n c, .slice b m d, .int .i64 cp, .int .i64 fu, .bool de], .string nm] w fun e w' => e = .returned (.int .i64 (rfI fs ps cp fu de nm)) ∧ Below w.heap.size w w' := by
  have hb0 : Below w.heap.size w (w.alloc (.cells #[.slice a n c, .slice b m d, .int .i64 cp, .int .i64 fu, .bool de] 32)) := (Below.refl _ _).alloc (Nat.le_refl _) _
  have HPL : Hid (ps.length = m) := hP.1
  have hcall := implPageCount_any a n c fs b m d ps cp fu de nm _ A B (by simp; omega) (hF.below (hb0.mono hB)) (hP.below (hb0.mono hB)) hs hall
  clear hF hP hall
  cases de with
  | true =>
    have HR : Hid (rfI fs ps cp fu true nm = 1) := by show _ = _; unfold rfI; rw [if_neg (by simp)]
    clear hcall
    go_enter Try.func56, Try.ntmps56
    go_wp2_with fail
    go_ret
    exact ⟨ret_int HR.out.symm, hb0⟩
  | false =>
    by_cases hm : 0 < m
    · have hmz : decide ((0 : Int) < (m : Int)) = true := by simp; omega
      have HR : Hid (rfI fs ps cp fu false nm = 1) := by show _ = _; unfold rfI; rw [if_neg (by have := HPL.out; omega)]
      clear hcall
      go_enter Try.func56, Try.ntmps56
      go_wp2_with fail
      go_ret
      exact ⟨ret_int HR.out.symm, hb0⟩
    · have hmz : decide ((0 : Int) < (m : Int)) = false := by simp; omega
      have hp := pageC_nil (fs := fs) (cp := cp) (fu := fu) (nm := nm) (show ps.length = 0 by have := HPL.out; omega)
      by_cases hneg : pageC fs ps cp fu nm < 0
      · have HR : Hid (rfI fs ps cp fu false nm = 1) := by show _ = _; unfold rfI; rw [if_neg (fun h => hp.1 hneg h.2.2)]
        clear hp
        generalize pageC fs ps cp fu nm = q at hneg hcall
        go_enter Try.func56, Try.ntmps56
        go_wp2_with fail
        refine hcall.mono ?_
        rintro e w2 ⟨rfl, hb2⟩
        have hb3 := hb0.trans (hb2.mono (by simp))
        clear hcall hb2 hb0
        go_wp2
        go_ret
        exact ⟨ret_int HR.out.symm, hb3⟩
      · have HR : Hid (rfI fs ps cp fu false nm = 0) := by
          show _ = _
          unfold rfI
          rw [if_pos ⟨rfl, by have := HPL.out; omega, Decidable.byContradiction (fun h => hneg (hp.2 (fun hh => h hh.1))), Decidable.byContradiction (fun h => hneg (hp.2 (fun hh => h hh.2)))⟩]
        clear hp
        generalize pageC fs ps cp fu nm = q at hneg hcall
        go_enter Try.func56, Try.ntmps56
        go_wp2_with fail
        refine hcall.mono ?_
        rintro e w2 ⟨rfl, hb2⟩
        have hb3 := hb0.trans (hb2.mono (by simp))
        clear hcall hb2 hb0
        go_wp2
        go_ret
        exact ⟨ret_int HR.out.symm, hb3⟩
end Go.Proofs.Ytmmdkjeoadlikaa
namespace Go.Proofs.Ytmmdkjeoadlikaa
open Go.RowKit
set_option linter.unusedVariables false
set_option maxRecDepth 100000

set_option maxHeartbeats 3200000 in
theorem removeChange (nm : ByteArray) (N1 : Nat) (fs : List PF) (hfs : fs.length ≤ 1048576) (ps : List PP) (cp : Int) (de : Bool) (w : World)
    (x1 : w.heap[N1]? = some (.cells #[.string nm] 9)) :
    ChangeOk 62 #[.pointer (some ⟨N1, 0, none⟩)] w fs (remF fs nm) ps ps cp de := by
  intro W O fu a1 c1 b1 d1 xs vs ys us hbel hO XO own hlt
  obtain ⟨base, hbase⟩ : ∃ base, base = w.heap.size + 2 := ⟨_, rfl⟩
  rw [← hbase] at own
  have l1 := (Array.getElem?_eq_some_iff.1 x1).1
  have hOl := (Array.getElem?_eq_some_iff.1 XO).1
  have hWs := hbel.size
  have y1 := (hbel.block N1 l1).trans x1
  have hbw : base ≤ W.heap.size := by omega
  have S0 : W.cell? ⟨N1, 0, none⟩ = some (.string nm) := by simp [World.cell?, y1]
  have HSF : Hid (∀ (X Y : World) {F : Nat → Prop}, X.cell? ⟨N1, 0, none⟩ = some (.string nm) → Fr F X Y → (∀ g, F g → base ≤ g) → Y.cell? ⟨N1, 0, none⟩ = some (.string nm)) := fun X Y F hX hF hB => (World.cell?_of_block (hF.block N1 (World.block_lt_of_cell? X ⟨N1, 0, none⟩ hX) (fun e => by have := hB N1 e; omega))).trans hX
  clear x1 y1
  show Calls Try.prog 62 #[.pointer (some ⟨O, 0, none⟩), .pointer (some ⟨N1, 0, none⟩)] W _
  go_enter Try.func62, Try.ntmps62
  go_wp2_with fail
  refine wp_region_noPanic ?_
  refine wp_region_held_drew (S := (fun w' => w'.cell? ⟨N1, 0, none⟩ = some (.string nm))) (by kernel_rfl) ?_ (fun hHeld => ?_)
  · exact S0
  refine wpAnyH_take (i := 0) (oi := { dst := some 3, op := Op.move (Operand.tmp 0), type := 80, pos := "l1_disk.go:135", after := #[], guard := none }) (v := ?_) rfl (by kernel_rfl) (by kernel_rfl) (by kernel_rfl) (fun _ _ _ h => h) (Or.inl ⟨by rfl, ?_⟩) (by assumption) ?_
  rotate_left 1
  · intro w hSw; (try dsimp only at hSw); go_simp; try (with_reducible rfl)
  try simp only [Act.put, List.setIfInBounds_toArray, List.set_cons_zero, List.set_cons_succ]
  refine wpAnyH_take (i := 1) (oi := { dst := some 4, op := Op.move (Operand.tmp 0), type := 80, pos := "l1_disk.go:135", after := #[], guard := none }) (v := ?_) rfl (by kernel_rfl) (by kernel_rfl) (by kernel_rfl) (fun _ _ _ h => h) (Or.inl ⟨by rfl, ?_⟩) (by assumption) ?_
  rotate_left 1
  · intro w hSw; (try dsimp only at hSw); go_simp; try (with_reducible rfl)
  try simp only [Act.put, List.setIfInBounds_toArray, List.set_cons_zero, List.set_cons_succ]
  refine wpAnyH_take (i := 2) (oi := { dst := some 5, op := Op.nilCheck (Operand.tmp 4), type := 0, pos := "l1_disk.go:135", after := #[{ on := 1, ground := Ground.data }], guard := none }) (v := ?_) rfl (by kernel_rfl) (by kernel_rfl) (by kernel_rfl) (fun _ _ _ h => h) (Or.inl ⟨by rfl, ?_⟩) (by assumption) ?_
  rotate_left 1
  · intro w hSw; (try dsimp only at hSw); go_simp; try (with_reducible rfl)
  try simp only [Act.put, List.setIfInBounds_toArray, List.set_cons_zero, List.set_cons_succ]
  refine wpAnyH_take (i := 3) (oi := { dst := some 6, op := Op.fieldAddr 32 (Operand.tmp 5) 0, type := 0, pos := "l1_disk.go:135", after := #[{ on := 2, ground := Ground.data }], guard := none }) (v := ?_) rfl (by kernel_rfl) (by kernel_rfl) (by kernel_rfl) (fun _ _ _ h => h) (Or.inl ⟨by rfl, ?_⟩) (by assumption) ?_
  rotate_left 1
  · intro w hSw; (try dsimp only at hSw); go_simp; try (with_reducible rfl)
  try simp only [Act.put, List.setIfInBounds_toArray, List.set_cons_zero, List.set_cons_succ]
  refine wpAnyH_take (i := 5) (oi := { dst := some 8, op := Op.load 9 (Operand.tmp 1), type := 9, pos := "l1_disk.go:135", after := #[], guard := none }) (v := ?_) rfl (by kernel_rfl) (by kernel_rfl) (by kernel_rfl) (fun _ _ _ h => h) (Or.inl ⟨by rfl, ?_⟩) (by assumption) ?_
  rotate_left 1
  · intro w hSw; (try dsimp only at hSw); go_simp; try (with_reducible rfl)
  try simp only [Act.put, List.setIfInBounds_toArray, List.set_cons_zero, List.set_cons_succ]
  refine wpAnyH_ready (rs := [4]) (by kernel_rfl) (by simp) ?_
  refine AllReadyH.cons (o := { dst := some 7, op := Op.load 29 (Operand.tmp 6), type := 29, pos := "l1_disk.go:135", after := #[{ on := 3, ground := Ground.data }], guard := none }) rfl (fun K hK => ?_) ?_
  rotate_left 1
  exact AllReadyH.nil
  · obtain ⟨o0, o1, o2, o3, o4⟩ := box_fiveC XO
    go_simp
    clear o0 o1 o2 o3 o4
    refine hK.out _ _ S0 (fun hHeld => ?_)
    clear hK K
    try simp only [Act.put, List.setIfInBounds_toArray, List.set_cons_zero, List.set_cons_succ]
    refine wpAnyH_ready (rs := [6]) (by kernel_rfl) (by simp) ?_
    refine AllReadyH.cons (o := { dst := some 9, op := Op.call { callee := Callee.value (Operand.func 59), args := #[Operand.tmp 7, Operand.tmp 8], argTypes := #[29, 9] }, type := 29, pos := "l1_disk.go:135", after := #[{ on := 4, ground := Ground.data }, { on := 5, ground := Ground.data }], guard := none }) rfl (fun K hK => ?_) ?_
    rotate_left 1
    exact AllReadyH.nil
    · go_simp
      refine (withoutFile_own a1 fs.length c1 fs xs vs nm base W.drew (own.files.below (Below.refl _ W).drew) hfs).mono ?_
      rintro e w2 ⟨xs2, vs2, rfl, own2, hsub, hF2x⟩
      have hF2 : Fr (fun x => (Value.slice a1 fs.length c1).ownBlock = some x) W w2 := (Fr.of_below (Below.refl _ W).drew).trans hF2x
      have hub : ∀ g, (Value.slice a1 fs.length c1).ownBlock = some g → base ≤ g ∧ g < O := fun g e => ⟨(own.files.row.lt g e).1, hlt g (.inl (.inl e))⟩
      have XO2 := (hF2.block O hOl (fun e => by have := (hub _ e).2; omega)).trans XO
      have hs2 := hF2.size
      have S2 := HSF.out _ _ S0 hF2 (fun g e => (hub g e).1)
      clear hF2x
      go_wp2_with fail
      refine hK.out _ _ S2 (fun hHeld => ?_)
      clear hK K
      try simp only [Act.put, List.setIfInBounds_toArray, List.set_cons_zero, List.set_cons_succ]
      refine wpAnyH_take (i := 7) (oi := { dst := some 10, op := Op.nilCheck (Operand.tmp 3), type := 0, pos := "l1_disk.go:135", after := #[{ on := 0, ground := Ground.data }, { on := 0, ground := Ground.phase }, { on := 1, ground := Ground.phase }, { on := 2, ground := Ground.phase }, { on := 3, ground := Ground.phase }, { on := 4, ground := Ground.phase }, { on := 5, ground := Ground.phase }, { on := 6, ground := Ground.phase }], guard := none }) (v := ?_) rfl (by kernel_rfl) (by kernel_rfl) (by kernel_rfl) (fun _ _ _ h => h) (Or.inl ⟨by rfl, ?_⟩) (by assumption) ?_
      rotate_left 1
      · intro w hSw; (try dsimp only at hSw); go_simp; try (with_reducible rfl)
      try simp only [Act.put, List.setIfInBounds_toArray, List.set_cons_zero, List.set_cons_succ]
      refine wpAnyH_take (i := 8) (oi := { dst := some 11, op := Op.fieldAddr 32 (Operand.tmp 10) 0, type := 0, pos := "l1_disk.go:135", after := #[{ on := 7, ground := Ground.data }, { on := 0, ground := Ground.phase }, { on := 1, ground := Ground.phase }, { on := 2, ground := Ground.phase }, { on := 3, ground := Ground.phase }, { on := 4, ground := Ground.phase }, { on := 5, ground := Ground.phase }, { on := 6, ground := Ground.phase }], guard := none }) (v := ?_) rfl (by kernel_rfl) (by kernel_rfl) (by kernel_rfl) (fun _ _ _ h => h) (Or.inl ⟨by rfl, ?_⟩) (by assumption) ?_
      rotate_left 1
      · intro w hSw; (try dsimp only at hSw); go_simp; try (with_reducible rfl)
      try simp only [Act.put, List.setIfInBounds_toArray, List.set_cons_zero, List.set_cons_succ]
      refine wpAnyH_ready (rs := [9]) (by kernel_rfl) (by simp) ?_
      refine AllReadyH.cons (o := { dst := none, op := Op.store 29 (Operand.tmp 11) (Operand.tmp 9), type := 0, pos := "l1_disk.go:135", after := #[{ on := 8, ground := Ground.data }, { on := 6, ground := Ground.data }, { on := 6, ground := Ground.chain }, { on := 0, ground := Ground.phase }, { on := 1, ground := Ground.phase }, { on := 2, ground := Ground.phase }, { on := 3, ground := Ground.phase }, { on := 4, ground := Ground.phase }, { on := 5, ground := Ground.phase }, { on := 6, ground := Ground.phase }], guard := none }) rfl (fun K hK => ?_) ?_
      rotate_left 1
      exact AllReadyH.nil
      · obtain ⟨o0, o1, o2, o3, o4⟩ := box_fiveC XO2
        have fo := box_thawC XO2
        go_simp
        clear o0 o1 o2 o3 o4 fo
        have S5 := HSF.out _ _ S2 (fr_setCell w2 O 0 (.slice a1 (remF fs nm).length c1)) (fun g e => by omega)
        refine hK.out _ _ S5 (fun hHeld => ?_)
        clear hK K
        try simp only [Act.put, List.setIfInBounds_toArray, List.set_cons_zero, List.set_cons_succ]
        refine wpAnyH_done (by kernel_rfl) ?_ _
        refine NoPanic.normal ?_
        have hset := fr_setCell w2 O 0 (.slice a1 (remF fs nm).length c1)
        have hca := own.cache.fr hF2 (fun g hg e => own.apart g (.inl e) hg)
        have hD : OwnD w2 base (.slice a1 (remF fs nm).length c1) (.slice b1 ps.length d1) (remF fs nm) ps xs2 vs2 ys us := ⟨own2, hca, fun g hg => own.apart g (hsub g hg)⟩
        have hp5 := hD.frS hset (fun g e hg => by have : g < O := hg.elim (fun x => hlt g (.inl (hsub g x))) (fun x => hlt g (.inr x)); omega)
        have XO5 := heap_setCell_at XO2 0 (.slice a1 (remF fs nm).length c1)
        have hFr : Fr (fun g => g = O ∨ (Blk (.slice a1 fs.length c1) vs g ∨ Blk (.slice b1 ps.length d1) us g)) W (w2.setCell ⟨O, 0, none⟩ (.slice a1 (remF fs nm).length c1)) := (hF2.weak (fun g e => .inr (.inl (.inl e)))).trans (hset.weak (fun g e => .inl e))
        rw [hbase] at hp5
        go_wp2
        exact bodyPost_end (v := .tuple #[]) (by simp [results, Try.results62, go_sem]) rfl ⟨rfl, remF fs nm, ps, a1, c1, b1, d1, xs2, vs2, ys, us, ⟨rfl, rfl⟩, XO5, hp5, hFr⟩
end Go.Proofs.Ytmmdkjeoadlikaa
namespace Go.Proofs.Ytmmdkjeoadlikaa
open Go.RowKit
set_option linter.unusedVariables false
set_option maxRecDepth 100000
theorem three_allocs {w : World} {x0 x1 x2 : Obj} {W0 : World} (h : W0 = ((w.alloc x0).alloc x1).alloc x2) : W0.heap.size = w.heap.size + 3 ∧ Below w.heap.size w W0 ∧ W0.heap[w.heap.size]? = some x0 ∧ W0.heap[w.heap.size + 1]? = some x1 ∧ W0.heap[w.heap.size + 1 + 1]? = some x2 := by
  subst h
  have z : ∀ (X : World) (x : Obj), (X.alloc x).heap.size = X.heap.size + 1 := fun X x => by simp
  refine ⟨by simp, (((Below.refl _ _).alloc (Nat.le_refl _) _).alloc (by simp only [z]; omega) _).alloc (by simp only [z]; omega) _, ?_, ?_, ?_⟩
  · rw [heap_alloc_old _ _ (by simp only [z]; omega), heap_alloc_old _ _ (by simp only [z]; omega)]; exact heap_alloc_new _ _
  · rw [heap_alloc_old _ _ (by simp only [z]; omega)]; have := heap_alloc_new (w.alloc x0) x1; rwa [z] at this
  · have := heap_alloc_new ((w.alloc x0).alloc x1) x2; rwa [z, z] at this
set_option maxHeartbeats 1600000 in
theorem implRemove_any (a : Option Addr) (n c : Nat) (fs : List PF) (b : Option Addr) (m d : Nat) (ps : List PP) (cp fu : Int) (de : Bool) (nm : ByteArray) (w : World) (A B : Nat) (hB : B ≤ w.heap.size) (hF : FilesAt w A B a n c fs) (hP : PendsAt w A B b m d ps) (hs : nm.size ≤ maxLen) (hfu : -9223372036854775808 ≤ fu ∧ fu ≤ 9223372036854775807)
    (hn : n ≤ 1048576) (hm : m ≤ 1048576) (hall : ∀ j, j < n → (fs.getD j (ByteArray.empty, [])).2.length ≤ 1048576) (hall2 : ∀ j, j < m → (ps.getD j (ByteArray.empty, 0, [])).2.2.length ≤ 1048576) :
    Calls Try.prog 25 #[.agg #[.slice a n c, .slice b m d, .int .i64 cp, .int .i64 fu, .bool de], .string nm] w fun e w' => ResAt w e w' (dsE (rfI fs ps cp fu de nm) fu) (dsX (rfI fs ps cp fu de nm) fu fs (remF fs nm)) (dsX (rfI fs ps cp fu de nm) fu ps ps) cp (dsF (rfI fs ps cp fu de nm) fu) (dsD (rfI fs ps cp fu de nm) fu de) := by
  have HF : Hid (∀ W, Below w.heap.size w W → FilesAt W A B a n c fs) := fun W hW => hF.below (hW.mono hB)
  have HP : Hid (∀ W, Below w.heap.size w W → PendsAt W A B b m d ps) := fun W hW => hP.below (hW.mono hB)
  have HA : Hid (∀ j, j < n → (fs.getD j (ByteArray.empty, [])).2.length ≤ 1048576) := hall
  have HA2 : Hid (∀ j, j < m → (ps.getD j (ByteArray.empty, 0, [])).2.2.length ≤ 1048576) := hall2
  have HFL : Hid (fs.length = n) := hF.1
  clear hF hP hall hall2
  go_enter Try.func25, Try.ntmps25
  go_wp2_with fail
  obtain ⟨W0, hW0⟩ : ∃ W0, W0 = (((w.alloc (.cells #[.slice a n c, .slice b m d, .int .i64 cp, .int .i64 fu, .bool de] 32)).alloc (.cells #[.string nm] 9)).alloc (.cells #[.int .i64 0, .slice none 0 0, .slice none 0 0, .int .i64 0, .int .i64 0, .bool false] 40)) := ⟨_, rfl⟩
  obtain ⟨hs0, hb0, k0, k1, k2⟩ := three_allocs hW0
  rw [← hW0]
  clear hW0
  have HK1 : Hid (W0.heap[w.heap.size + 1]? = some (.cells #[.string nm] 9)) := k1
  have HK2 : Hid (W0.heap[w.heap.size + 1 + 1]? = some (.cells #[.int .i64 0, .slice none 0 0, .slice none 0 0, .int .i64 0, .int .i64 0, .bool false] 40)) := k2
  have S0 : (W0.cell? ⟨w.heap.size, 0, none⟩ = some (.slice a n c) ∧ W0.cell? ⟨w.heap.size, 1, none⟩ = some (.slice b m d) ∧ W0.cell? ⟨w.heap.size, 2, none⟩ = some (.int .i64 cp) ∧ W0.cell? ⟨w.heap.size, 3, none⟩ = some (.int .i64 fu) ∧ W0.cell? ⟨w.heap.size, 4, none⟩ = some (.bool de)) ∧ W0.cell? ⟨w.heap.size + 1, 0, none⟩ = some (.string nm) := by simp [World.cell?, k0, k1]
  have HSF : Hid (∀ (X Y : World) {F : Nat → Prop}, ((X.cell? ⟨w.heap.size, 0, none⟩ = some (.slice a n c) ∧ X.cell? ⟨w.heap.size, 1, none⟩ = some (.slice b m d) ∧ X.cell? ⟨w.heap.size, 2, none⟩ = some (.int .i64 cp) ∧ X.cell? ⟨w.heap.size, 3, none⟩ = some (.int .i64 fu) ∧ X.cell? ⟨w.heap.size, 4, none⟩ = some (.bool de)) ∧ X.cell? ⟨w.heap.size + 1, 0, none⟩ = some (.string nm)) → Fr F X Y → (∀ g, F g → w.heap.size + 2 ≤ g) → (Y.cell? ⟨w.heap.size, 0, none⟩ = some (.slice a n c) ∧ Y.cell? ⟨w.heap.size, 1, none⟩ = some (.slice b m d) ∧ Y.cell? ⟨w.heap.size, 2, none⟩ = some (.int .i64 cp) ∧ Y.cell? ⟨w.heap.size, 3, none⟩ = some (.int .i64 fu) ∧ Y.cell? ⟨w.heap.size, 4, none⟩ = some (.bool de)) ∧ Y.cell? ⟨w.heap.size + 1, 0, none⟩ = some (.string nm)) := fun X Y F hX hF hB => by
    have q : ∀ (N o : Nat) (v : Value), N < w.heap.size + 2 → X.cell? ⟨N, o, none⟩ = some v → Y.cell? ⟨N, o, none⟩ = some v := fun N o v hN hv => (World.cell?_of_block (hF.block N (World.block_lt_of_cell? X ⟨N, o, none⟩ hv) (fun e => by have := hB N e; omega))).trans hv
    obtain ⟨⟨e0, e1, e2, e3, e4⟩, e5⟩ := hX
    exact ⟨⟨q _ _ _ (by omega) e0, q _ _ _ (by omega) e1, q _ _ _ (by omega) e2, q _ _ _ (by omega) e3, q _ _ _ (by omega) e4⟩, q _ _ _ (by omega) e5⟩
  have HSS : Hid (∀ X, Below W0.heap.size W0 X → (X.cell? ⟨w.heap.size, 0, none⟩ = some (.slice a n c) ∧ X.cell? ⟨w.heap.size, 1, none⟩ = some (.slice b m d) ∧ X.cell? ⟨w.heap.size, 2, none⟩ = some (.int .i64 cp) ∧ X.cell? ⟨w.heap.size, 3, none⟩ = some (.int .i64 fu) ∧ X.cell? ⟨w.heap.size, 4, none⟩ = some (.bool de)) ∧ X.cell? ⟨w.heap.size + 1, 0, none⟩ = some (.string nm)) := fun X hX => HSF.out W0 X S0 (Fr.of_below hX (S := fun _ => False)) (fun g e => e.elim)
  clear k0 k1 k2
  refine wp_region_noPanic ?_
  refine wp_region_held_drew (S := (fun w' => (w'.cell? ⟨w.heap.size, 0, none⟩ = some (.slice a n c) ∧ w'.cell? ⟨w.heap.size, 1, none⟩ = some (.slice b m d) ∧ w'.cell? ⟨w.heap.size, 2, none⟩ = some (.int .i64 cp) ∧ w'.cell? ⟨w.heap.size, 3, none⟩ = some (.int .i64 fu) ∧ w'.cell? ⟨w.heap.size, 4, none⟩ = some (.bool de)) ∧ w'.cell? ⟨w.heap.size + 1, 0, none⟩ = some (.string nm))) (by kernel_rfl) ?_ (fun hHeld => ?_)
  · exact S0
  refine wpAnyH_take (i := 0) (oi := { dst := some 5, op := Op.load 32 (Operand.tmp 2), type := 32, pos := "l1_disk.go:134", after := #[], guard := none }) (v := ?_) rfl (by kernel_rfl) (by kernel_rfl) (by kernel_rfl) (fun _ _ _ h => h) (Or.inl ⟨by rfl, ?_⟩) (by assumption) ?_
  rotate_left 1
  · intro w hSw; (try dsimp only at hSw); go_simp; try (with_reducible rfl)
  try simp only [Act.put, List.setIfInBounds_toArray, List.set_cons_zero, List.set_cons_succ]
  refine wpAnyH_take (i := 1) (oi := { dst := some 6, op := Op.load 32 (Operand.tmp 2), type := 32, pos := "l1_disk.go:134", after := #[], guard := none }) (v := ?_) rfl (by kernel_rfl) (by kernel_rfl) (by kernel_rfl) (fun _ _ _ h => h) (Or.inl ⟨by rfl, ?_⟩) (by assumption) ?_
  rotate_left 1
  · intro w hSw; (try dsimp only at hSw); go_simp; try (with_reducible rfl)
  try simp only [Act.put, List.setIfInBounds_toArray, List.set_cons_zero, List.set_cons_succ]
  refine wpAnyH_take (i := 2) (oi := { dst := some 7, op := Op.load 9 (Operand.tmp 3), type := 9, pos := "l1_disk.go:134", after := #[], guard := none }) (v := ?_) rfl (by kernel_rfl) (by kernel_rfl) (by kernel_rfl) (fun _ _ _ h => h) (Or.inl ⟨by rfl, ?_⟩) (by assumption) ?_
  rotate_left 1
  · intro w hSw; (try dsimp only at hSw); go_simp; try (with_reducible rfl)
  try simp only [Act.put, List.setIfInBounds_toArray, List.set_cons_zero, List.set_cons_succ]
  refine wpAnyH_take (i := 4) (oi := { dst := some 9, op := Op.makeFunc (Fn.func 62) #[] #[Operand.tmp 3], type := 81, pos := "l1_disk.go:134", after := #[], guard := none }) (v := ?_) rfl (by kernel_rfl) (by kernel_rfl) (by kernel_rfl) (fun _ _ _ h => h) (Or.inl ⟨by rfl, ?_⟩) (by assumption) ?_
  rotate_left 1
  · intro w hSw; (try dsimp only at hSw); go_simp; try (with_reducible rfl)
  try simp only [Act.put, List.setIfInBounds_toArray, List.set_cons_zero, List.set_cons_succ]
  refine wpAnyH_ready (rs := [3]) (by kernel_rfl) (by simp) ?_
  refine AllReadyH.cons (o := { dst := some 8, op := Op.call { callee := Callee.value (Operand.func 56), args := #[Operand.tmp 6, Operand.tmp 7], argTypes := #[32, 9] }, type := 2, pos := "l1_disk.go:134", after := #[{ on := 1, ground := Ground.data }, { on := 2, ground := Ground.data }], guard := none }) rfl (fun K hK => ?_) ?_
  rotate_left 1
  exact AllReadyH.nil
  · go_simp
    refine (refuseFile_any a n c fs b m d ps cp fu de nm W0.drew A B (by show B ≤ W0.heap.size; omega) (HF.out _ hb0.drew) (HP.out _ hb0.drew) hs HA.out).mono ?_
    rintro e w1 ⟨rfl, hb1x⟩
    have hb1 : Below W0.heap.size W0 w1 := ((Below.refl _ W0).drew).trans hb1x
    have hs1 := hb1.size
    have bel1 : Below w.heap.size w w1 := hb0.trans (hb1.mono (by omega))
    have S1 := HSS.out w1 hb1
    have kR := (hb1.block _ (by omega)).trans HK2.out
    have n1 := (hb1.block _ (by omega)).trans HK1.out
    obtain ⟨rf, hrf⟩ : ∃ rf, rf = rfI fs ps cp fu de nm := ⟨_, rfl⟩
    rw [← hrf]
    have HRF : Hid (rf = rfI fs ps cp fu de nm) := hrf
    clear hrf hb1x
    go_wp2_with fail
    refine hK.out _ _ S1 (fun hHeld => ?_)
    clear hK K
    try simp only [Act.put, List.setIfInBounds_toArray, List.set_cons_zero, List.set_cons_succ]
    refine wpAnyH_ready (rs := [5]) (by kernel_rfl) (by simp) ?_
    refine AllReadyH.cons (o := { dst := some 10, op := Op.call { callee := Callee.value (Operand.func 49), args := #[Operand.tmp 5, Operand.tmp 8, Operand.tmp 9], argTypes := #[32, 2, 81] }, type := 40, pos := "l1_disk.go:134", after := #[{ on := 0, ground := Ground.data }, { on := 3, ground := Ground.data }, { on := 4, ground := Ground.data }, { on := 3, ground := Ground.chain }], guard := none }) rfl (fun K hK => ?_) ?_
    rotate_left 1
    exact AllReadyH.nil
    · go_simp
      refine (deviceStepR_any a n c fs (remF fs nm) b m d ps ps cp fu de rf (w.heap.size + 1) w1 A B (by omega) (HF.out _ bel1) (HP.out _ bel1) hn hm HA.out HA2.out hfu (fun _ => removeChange nm _ fs (by have := HFL.out; omega) ps cp de w1 n1)).mono ?_
      rintro e w2 hres
      obtain ⟨a2, c2, b2, d2, xs, vs, ys, us, rfl, hO2, hb2⟩ := hres.out
      have hs2 := hb2.size
      have S2 := HSS.out w2 (hb1.trans (hb2.mono hs1))
      have kR2 := (hb2.block _ (by omega)).trans kR
      have HR : Hid (ResAt w (.returned (.agg #[.int .i64 (dsE rf fu), .slice a2 (dsX rf fu fs (remF fs nm)).length c2, .slice b2 (dsX rf fu ps ps).length d2, .int .i64 cp, .int .i64 (dsF rf fu), .bool (dsD rf fu de)])) (put6R w2 (w.heap.size + 1 + 1) (.int .i64 (dsE rf fu)) (.slice a2 (dsX rf fu fs (remF fs nm)).length c2) (.slice b2 (dsX rf fu ps ps).length d2) (.int .i64 cp) (.int .i64 (dsF rf fu)) (.bool (dsD rf fu de))) (dsE rf fu) (dsX rf fu fs (remF fs nm)) (dsX rf fu ps ps) cp (dsF rf fu) (dsD rf fu de)) := ResAt.mk6 (by omega) (base := w1.heap.size) hO2 (by omega) (by omega) (bel1.trans (hb2.mono bel1.size))
      clear hres hO2
      go_wp2_with fail
      refine hK.out _ _ S2 (fun hHeld => ?_)
      clear hK K
      try simp only [Act.put, List.setIfInBounds_toArray, List.set_cons_zero, List.set_cons_succ]
      refine wpAnyH_ready (rs := [6]) (by kernel_rfl) (by simp) ?_
      refine AllReadyH.cons (o := { dst := none, op := Op.store 40 (Operand.tmp 4) (Operand.tmp 10), type := 0, pos := "l1_disk.go:134", after := #[{ on := 5, ground := Ground.data }, { on := 5, ground := Ground.chain }, { on := 0, ground := Ground.phase }, { on := 1, ground := Ground.phase }, { on := 2, ground := Ground.phase }, { on := 3, ground := Ground.phase }, { on := 4, ground := Ground.phase }, { on := 5, ground := Ground.phase }], guard := none }) rfl (fun K hK => ?_) ?_
      rotate_left 1
      exact AllReadyH.nil
      · obtain ⟨r0, r1, r2, r3, r4, r5⟩ := box_sixR kR2
        have ff := box_thawC kR2
        have HB := put6R_box kR2 (.int .i64 (dsE rf fu)) (.slice a2 (dsX rf fu fs (remF fs nm)).length c2) (.slice b2 (dsX rf fu ps ps).length d2) (.int .i64 cp) (.int .i64 (dsF rf fu)) (.bool (dsD rf fu de))
        have S3 : ((put6R w2 (w.heap.size + 1 + 1) (.int .i64 (dsE rf fu)) (.slice a2 (dsX rf fu fs (remF fs nm)).length c2) (.slice b2 (dsX rf fu ps ps).length d2) (.int .i64 cp) (.int .i64 (dsF rf fu)) (.bool (dsD rf fu de))).cell? ⟨w.heap.size, 0, none⟩ = some (.slice a n c) ∧ (put6R w2 (w.heap.size + 1 + 1) (.int .i64 (dsE rf fu)) (.slice a2 (dsX rf fu fs (remF fs nm)).length c2) (.slice b2 (dsX rf fu ps ps).length d2) (.int .i64 cp) (.int .i64 (dsF rf fu)) (.bool (dsD rf fu de))).cell? ⟨w.heap.size, 1, none⟩ = some (.slice b m d) ∧ (put6R w2 (w.heap.size + 1 + 1) (.int .i64 (dsE rf fu)) (.slice a2 (dsX rf fu fs (remF fs nm)).length c2) (.slice b2 (dsX rf fu ps ps).length d2) (.int .i64 cp) (.int .i64 (dsF rf fu)) (.bool (dsD rf fu de))).cell? ⟨w.heap.size, 2, none⟩ = some (.int .i64 cp) ∧ (put6R w2 (w.heap.size + 1 + 1) (.int .i64 (dsE rf fu)) (.slice a2 (dsX rf fu fs (remF fs nm)).length c2) (.slice b2 (dsX rf fu ps ps).length d2) (.int .i64 cp) (.int .i64 (dsF rf fu)) (.bool (dsD rf fu de))).cell? ⟨w.heap.size, 3, none⟩ = some (.int .i64 fu) ∧ (put6R w2 (w.heap.size + 1 + 1) (.int .i64 (dsE rf fu)) (.slice a2 (dsX rf fu fs (remF fs nm)).length c2) (.slice b2 (dsX rf fu ps ps).length d2) (.int .i64 cp) (.int .i64 (dsF rf fu)) (.bool (dsD rf fu de))).cell? ⟨w.heap.size, 4, none⟩ = some (.bool de)) ∧ (put6R w2 (w.heap.size + 1 + 1) (.int .i64 (dsE rf fu)) (.slice a2 (dsX rf fu fs (remF fs nm)).length c2) (.slice b2 (dsX rf fu ps ps).length d2) (.int .i64 cp) (.int .i64 (dsF rf fu)) (.bool (dsD rf fu de))).cell? ⟨w.heap.size + 1, 0, none⟩ = some (.string nm) := HSF.out _ _ S2 (put6R_fr _ _ _ _ _ _ _ _) (fun g e => by omega)
        go_simp
        clear r0 r1 r2 r3 r4 r5
        refine hK.out _ _ S3 (fun hHeld => ?_)
        clear hK K
        try simp only [Act.put, List.setIfInBounds_toArray, List.set_cons_zero, List.set_cons_succ]
        refine wpAnyH_done (by kernel_rfl) ?_ _
        refine NoPanic.normal ?_
        go_wp2
        show bodyPost _ _ _ _ _ (put6R w2 (w.heap.size + 1 + 1) (.int .i64 (dsE rf fu)) (.slice a2 (dsX rf fu fs (remF fs nm)).length c2) (.slice b2 (dsX rf fu ps ps).length d2) (.int .i64 cp) (.int .i64 (dsF rf fu)) (.bool (dsD rf fu de)))
        obtain ⟨r0, r1, r2, r3, r4, r5⟩ := box_sixR HB
        exact bodyPost_ret (v := .agg #[.int .i64 (dsE rf fu), .slice a2 (dsX rf fu fs (remF fs nm)).length c2, .slice b2 (dsX rf fu ps ps).length d2, .int .i64 cp, .int .i64 (dsF rf fu), .bool (dsD rf fu de)]) (by simp [results, Try.results25, go_sem, r0, r1, r2, r3, r4, r5]) rfl (by rw [← HRF.out]; exact HR.out)
end Go.Proofs.Ytmmdkjeoadlikaa
