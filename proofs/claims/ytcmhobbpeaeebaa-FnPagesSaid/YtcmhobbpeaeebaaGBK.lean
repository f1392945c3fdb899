import Derived.Test.YtcmhobbpeaeebaaGAU
import Derived.Test.YtcmhobbpeaeebaaGBH
import Derived.Test.YtcmhobbpeaeebaaGBJ
namespace Go.Proofs.Ytcmhobbpeaeebaa
namespace Old
open Go.RowKit
set_option linter.unusedVariables false
set_option maxRecDepth 100000

/-- Bytes. -/
def AllB (L : List Int) : Prop := ∀ x ∈ L, 0 ≤ x ∧ x ≤ 255
theorem AllB.take {L : List Int} (h : AllB L) (n : Nat) : AllB (L.take n) := fun x hx => h x (List.mem_of_mem_take hx)
theorem AllB.drop {L : List Int} (h : AllB L) (n : Nat) : AllB (L.drop n) := fun x hx => h x (List.mem_of_mem_drop hx)
theorem sTake_byte {L : List Int} (h : AllB L) (s : Option Nat) (n : Nat) : AllB (sTake L s n).2 := by
  have hz : AllB (List.replicate n 0) := fun x hx => by rw [List.eq_of_mem_replicate hx]; omega
  cases s with
  | none => exact hz
  | some k =>
    unfold sTake
    dsimp only
    split
    · exact (h.drop k).take n
    · exact hz
theorem AllB.num {l : List Int} (h : AllB l) (hl : l.length ≤ 4) (hi : Bool) : I64 (numOf hi l) := by
  have h1 := numOf_range hi h
  have h2 : l.length = 0 ∨ l.length = 1 ∨ l.length = 2 ∨ l.length = 3 ∨ l.length = 4 := by omega
  unfold I64
  rcases h2 with e | e | e | e | e <;> rw [e] at h1 <;> omega
theorem num_take {l : List Int} (h : AllB l) {k : Nat} (hk : k ≤ 4) (hi : Bool) : I64 (numOf hi (l.take k)) := (h.take k).num (by rw [List.length_take]; omega) hi
theorem AllB.getD {l : List Int} (h : AllB l) (i : Nat) : 0 ≤ l.getD i 0 ∧ l.getD i 0 ≤ 255 := by
  by_cases hi : i < l.length
  · rw [show l.getD i 0 = l[i] by simp [List.getD, hi]]
    exact h _ (List.getElem_mem hi)
  · rw [show l.getD i 0 = 0 by simp [List.getD, Nat.not_lt.1 hi]]
    omega
theorem small_le : smallN true ≤ 4 := by decide
theorem take_num {L : List Int} (h : AllB L) (s : Option Nat) : I64 (numOf true (sTake L s (smallN true)).2) := (sTake_byte h s _).num (by rw [sTake_len]; exact small_le) _
theorem take_str {L : List Int} (h : AllB L) (s t : Option Nat) : (toB (sTake L s ((sTake L t 1).2.getD 0 0).toNat).2).size ≤ 255 := by
  rw [toB_size, sTake_len]
  have := (sTake_byte h t 1).getD 0
  omega
theorem sKids_fit {L : List Int} (h : AllB L) : ∀ n, ∀ x ∈ (sKids L n).2, kidFit x
  | 0 => by intro x hx; simp [sKids] at hx
  | n + 1 => by
    intro x hx
    rw [sKids] at hx
    rcases List.mem_append.1 hx with hx | hx
    · exact sKids_fit h n x hx
    · simp only [List.mem_singleton] at hx
      subst hx
      refine ⟨?_, take_num h _⟩
      show (sSep L n (sKids L n).1).2.size ≤ maxLen
      unfold sSep maxLen
      split
      · have := take_str h (sTake L (sKids L n).1 1).1 (sKids L n).1; dsimp only; omega
      · exact Nat.zero_le _
theorem sEnt_fit {L : List Int} (h : AllB L) (s : Option Nat) : entFit (sEnt L s).2 := by
  unfold sEnt
  generalize (if true = true then 8 else ((sTake L s 1).2.getD 0 0).toNat) = m
  split
  · exact ⟨Nat.zero_le _, Nat.zero_le _, z64, z64⟩
  · have hk : ∀ l : List Int, (toB (l.take ((sTake L s 1).2.getD 0 0).toNat)).size ≤ maxLen := fun l => by
      rw [toB_size, List.length_take]
      have := (sTake_byte h s 1).getD 0
      unfold maxLen
      omega
    split
    · exact ⟨hk _, Nat.zero_le _, take_num h _, take_num h _⟩
    · refine ⟨hk _, ?_, z64, ?_⟩
      · have := take_str h (sTake L (sTake L (sTake L (sTake L s 1).1 m).1 1).1 1).1 (sTake L (sTake L (sTake L s 1).1 m).1 1).1
        unfold maxLen
        dsimp only
        omega
      · have := (sTake_byte h (sTake L (sTake L (sTake L s 1).1 m).1 1).1 1).getD 0
        dsimp only
        unfold I64
        omega
theorem sEnts_fit {L : List Int} (h : AllB L) : ∀ n, ∀ x ∈ (sEnts L n).2, entFit x
  | 0 => by intro x hx; simp [sEnts] at hx
  | n + 1 => by
    intro x hx
    rw [sEnts] at hx
    rcases List.mem_append.1 hx with hx | hx
    · exact sEnts_fit h n x hx
    · simp only [List.mem_singleton] at hx
      subst hx
      exact sEnt_fit h _
theorem sRead_fit {L : List Int} (h : AllB L) (kind : Int) (hk : I64 kind) (n : Nat) : PgFit (sRead L kind n).1 ∧ (∀ x ∈ (sRead L kind n).1.ks, kidFit x) ∧ (∀ x ∈ (sRead L kind n).1.es, entFit x) := by
  have e0 : (⟨#[]⟩ : ByteArray).size ≤ maxLen := Nat.zero_le _
  unfold sRead
  split
  · refine ⟨⟨s64 1 (by decide), z64, ?_, ?_, ?_, z64, e0⟩, (by intro x hx; cases hx), (by intro x hx; cases hx)⟩
    · show I64 (sMeta L).2.1; unfold sMeta; dsimp only; exact num_take ((sTake_byte h _ _).drop _) (by decide) _
    · show I64 (sMeta L).2.2.1; unfold sMeta; dsimp only; exact num_take ((sTake_byte h _ _).drop _) (by decide) _
    · show I64 (sMeta L).2.2.2; unfold sMeta; dsimp only; exact num_take ((sTake_byte h _ _).drop _) (by decide) _
  · split
    · exact ⟨⟨s64 2 (by decide), z64, z64, z64, z64, z64, e0⟩, sKids_fit h n, (by intro x hx; cases hx)⟩
    · split
      · exact ⟨⟨s64 3 (by decide), z64, z64, z64, z64, z64, e0⟩, (by intro x hx; cases hx), sEnts_fit h n⟩
      · split
        · refine ⟨⟨s64 4 (by decide), z64, z64, z64, z64, take_num h _, ?_⟩, (by intro x hx; cases hx), (by intro x hx; cases hx)⟩
          show (sOver L).2.2.size ≤ maxLen
          have := take_str h (sTake L (sTake L (some 0) (smallN true)).1 1).1 (sTake L (some 0) (smallN true)).1
          unfold sOver maxLen
          dsimp only
          omega
        · exact ⟨⟨hk, z64, z64, z64, z64, z64, e0⟩, (by intro x hx; cases hx), (by intro x hx; cases hx)⟩
end Old
end Go.Proofs.Ytcmhobbpeaeebaa
namespace Go.Proofs.Ytcmhobbpeaeebaa
namespace Old
open Go.RowKit
set_option linter.unusedVariables false
set_option maxRecDepth 100000

theorem sDec_fit {bs : List Int} (h : AllB bs) : PgFit (sDec bs).1 ∧ (∀ x ∈ (sDec bs).1.ks, kidFit x) ∧ (∀ x ∈ (sDec bs).1.es, entFit x) := by
  have hk : I64 (bs.getD 1 0) := by have := h.getD 1; unfold I64; omega
  exact sRead_fit (L := (bs.drop 3).take 124) ((h.drop 3).take 124) (bs.getD 1 0) hk (bs.getD 2 0).toNat
theorem code_count {p : Pg} {bs : List Int} (h : oldCodeOf p = bs) (hne : bs ≠ []) : p.ks.length + p.es.length ≤ 255 := by
  unfold oldCodeOf at h
  split at h
  · rename_i h1; exact body_count h1.2
  · exact absurd h.symm hne
theorem toB_cmp {x y : List Int} (hx : AllB x) (hy : AllB y) : ((toB x).toList == (toB y).toList) = decide (x = y) := by
  have h3 := toB_inj hx hy
  have h4 : ((toB x).toList == (toB y).toList) = decide (toB x = toB y) := by
    rw [ByteArray.toList_eq, ByteArray.toList_eq, Bool.eq_iff_iff]
    simp only [beq_iff_eq, decide_eq_true_eq]
    constructor
    · intro h; exact ByteArray.ext (Array.ext' h)
    · intro h; rw [h]
  rw [h4]
  simp [h3]
set_option maxHeartbeats 12800000 in
theorem specDecode_any (g o c : Nat) (bs : List Int) (w : World) (A B : Nat) (hB : B ≤ w.heap.size) (hb : BytesAt w A B (some ⟨g, o, none⟩) 128 c bs) :
    Calls Try.prog 12 #[.slice (some ⟨g, o, none⟩) 128 c] w fun e w' => ∃ vk ve, e = .returned (resVal ((sDec bs).2 && decide (oldCodeOf (sDec bs).1 = bs)) (sDec bs).1 vk ve) ∧ w'.ownsRow w.heap.size 100 2 vk (sDec bs).1.ks.length (rowsOf kidCells (sDec bs).1.ks) ∧ w'.ownsRow w.heap.size 102 4 ve (sDec bs).1.es.length (rowsOf entCells (sDec bs).1.es) ∧ (vk = .slice none 0 0 ∨ ve = .slice none 0 0) ∧ Below w.heap.size w w' := by
  have hcc : 128 ≤ c := hb.2.1
  have hcm := hb.2.2.1
  unfold maxLen at hcm
  have ib8 : (3 : Int) ≤ (c : Int) := by omega
  have ib120 : (127 : Int) ≤ (c : Int) := by omega
  have nb120 : ¬ (c : Int) < 127 := by omega
  have ec8 : ¬ c = 3 := by omega
  obtain ⟨g', o', eg, hg, hcell⟩ := hb.2.2.2.2.1 (by omega)
  obtain ⟨rfl, rfl⟩ : g' = g ∧ o' = o := by injection eg with e1; injection e1 with e2 e3; exact ⟨e2.symm, e3.symm⟩
  have hsub := bytesAt_sub hb 3 124 (by omega) (by omega)
  have q4 := hcell 1 (by omega)
  have q5 := hcell 2 (by omega)
  have hx4 := getD_byteB hb.2.2.2.1 1
  have hx5 := getD_byteB hb.2.2.2.1 2
  obtain ⟨n, hn⟩ : ∃ n : Nat, bs.getD 2 0 = (n : Int) := ⟨(bs.getD 2 0).toNat, by omega⟩
  rw [hn] at q5
  have hn255 : n ≤ 255 := by omega
  generalize hkd : bs.getD 1 0 = kd at q4 hx4
  have hL : ((bs.drop 3).take 124).length = 124 := hsub.1
  have HB : Hid (∀ X, Below w.heap.size w X → BytesAt X A B (some ⟨g', o' + 3, none⟩) ((bs.drop 3).take 124).length (c - 3) ((bs.drop 3).take 124)) := fun X hX => by rw [hL]; exact hsub.below (hX.mono hB)
  have HRB : Hid (∀ X, Below w.heap.size w X → Calls Try.prog 49 #[.int .i64 kd, .int .i64 n, .slice (some ⟨g', o' + 3, none⟩) 124 (c - 3), .agg #[.bool true, .int .i64 2, .bool true]] X fun e w' => ∃ v, e = .returned (.tuple #[v, .bool (sRead ((bs.drop 3).take 124) kd n).2]) ∧ PgVal w' X.heap.size (sRead ((bs.drop 3).take 124) kd n).1 v ∧ Below X.heap.size X w') := fun X hX => by
    have := l2ReadBody_any kd ((bs.drop 3).take 124) n hn255 (some ⟨g', o' + 3, none⟩) (c - 3) X A B (HB.out X hX) (Nat.le_trans hB hX.size)
    rw [hL] at this
    exact this
  have HC : Hid (∀ X, Below w.heap.size w X → X.cell? ⟨g', o' + 1, none⟩ = some (.int .u8 kd) ∧ X.cell? ⟨g', o' + 2, none⟩ = some (.int .u8 n)) := fun X hX => ⟨(hX.cell (p := ⟨g', o' + 1, none⟩) (by show g' < w.heap.size; omega)).trans q4, (hX.cell (p := ⟨g', o' + 2, none⟩) (by show g' < w.heap.size; omega)).trans q5⟩
  have HSD : Hid (sDec bs = sRead ((bs.drop 3).take 124) kd n) := by rw [sDec, hkd, hn, Int.toNat_natCast]; exact rfl
  have hbb := hb.2.2.2.1
  have hfit := sDec_fit (bs := bs) hbb
  rw [HSD.out] at hfit
  generalize sRead ((bs.drop 3).take 124) kd n = S at HRB HSD hfit
  obtain ⟨q, okb⟩ := S
  have hw5 : IntKind.i64.wrap (n : Int) = (n : Int) := by rw [IntKind.wrap_i64]; omega
  have hw4 : IntKind.i64.wrap kd = kd := by rw [IntKind.wrap_i64]; omega
  clear hn hkd hcell hsub
  go_enter Try.func12, Try.ntmps12
  go_wp2_with fail
  have hb0 : Below w.heap.size w (w.alloc (.cells #[.bool false, .int .i64 0, .int .i64 0, .int .i64 0, .int .i64 0, .int .i64 0, .slice none 0 0, .slice none 0 0, .int .i64 0, .string ⟨#[]⟩] 32)) := (Below.refl _ _).alloc (Nat.le_refl _) _
  have HR0 := heap_alloc_new w (.cells #[.bool false, .int .i64 0, .int .i64 0, .int .i64 0, .int .i64 0, .int .i64 0, .slice none 0 0, .slice none 0 0, .int .i64 0, .string ⟨#[]⟩] 32)
  generalize w.alloc (.cells #[.bool false, .int .i64 0, .int .i64 0, .int .i64 0, .int .i64 0, .int .i64 0, .slice none 0 0, .slice none 0 0, .int .i64 0, .string ⟨#[]⟩] 32) = W0 at hb0 HR0 ⊢
  obtain ⟨u4, u5⟩ := HC.out W0 hb0
  have sW0 : w.heap.size < W0.heap.size := (Array.getElem?_eq_some_iff.1 HR0).1
  have gW0 : g' ≠ W0.heap.size := by have := hb0.size; omega
  have gW0' := gW0.symm
  have gw0 : g' ≠ w.heap.size := by omega
  go_region_held3 (fun w' => w'.cell? ⟨g', o' + 1, none⟩ = some (.int .u8 kd) ∧ w'.cell? ⟨g', o' + 2, none⟩ = some (.int .u8 n)) (go_keep)
    (first
      | (have _ := mk1; go_at_call 49; refine (HRB.out (w1.alloc (.cells #[.int .i64 0, .int .i64 0, .int .i64 0, .int .i64 0, .int .i64 0, .slice none 0 0, .slice none 0 0, .int .i64 0, .string ⟨#[]⟩] 28)) (hw1.alloc hw1.size _)).mono ?_; rintro e w2 ⟨v2, rfl, ⟨vk, ve, rfl, hOk, hOe, hor⟩, hb2⟩; obtain ⟨ka, kc, rfl⟩ := own_shape hOk; obtain ⟨ea, ec, rfl⟩ := own_shape hOe; have hw2 : Below w.heap.size w w2 := (hw1.alloc hw1.size _).trans (hb2.mono (hw1.alloc hw1.size _).size); have hw2' : Below W0.heap.size W0 w2 := (hz1.alloc hz1.size _).trans (hb2.mono (hz1.alloc hz1.size _).size); have hP2 := eb_call (heap_alloc_new w1 (.cells #[.int .i64 0, .int .i64 0, .int .i64 0, .int .i64 0, .int .i64 0, .slice none 0 0, .slice none 0 0, .int .i64 0, .string ⟨#[]⟩] 28)) hb2; have ff := box_frozen hP2; obtain ⟨s5, s6, s0, s2, s3, s4, s7, s8, s1⟩ := box_slice hP2; obtain ⟨u4', u5'⟩ := HC.out w2 hw2; have gw2 : g' ≠ w2.heap.size := (by have := hw2.size; omega); have gw2' := gw2.symm)
      | (have _ := hP1; go_at_call 49; refine (HRB.out w1 hw1).mono ?_; rintro e w2 ⟨v2, rfl, ⟨vk, ve, rfl, hOk, hOe, hor⟩, hb2⟩; obtain ⟨ka, kc, rfl⟩ := own_shape hOk; obtain ⟨ea, ec, rfl⟩ := own_shape hOe; have hw2 : Below w.heap.size w w2 := hw1.trans (hb2.mono hw1.size); have hw2' : Below W0.heap.size W0 w2 := hz1.trans (hb2.mono hz1.size); have hP2 := eb_call hP1 hb2; have ff := box_frozen hP2; obtain ⟨s5, s6, s0, s2, s3, s4, s7, s8, s1⟩ := box_slice hP2; obtain ⟨u4', u5'⟩ := HC.out w2 hw2; have gw2 : g' ≠ w2.heap.size := (by have := hw2.size; omega); have gw2' := gw2.symm)
      | (have _ := mk1; go_at_call 49; refine (HRB.out w1 hw1).mono ?_; rintro e w2 ⟨v2, rfl, ⟨vk, ve, rfl, hOk, hOe, hor⟩, hb2⟩; obtain ⟨ka, kc, rfl⟩ := own_shape hOk; obtain ⟨ea, ec, rfl⟩ := own_shape hOe; have hw2 : Below w.heap.size w w2 := hw1.trans (hb2.mono hw1.size); have hw2' : Below W0.heap.size W0 w2 := hz1.trans (hb2.mono hz1.size); obtain ⟨u4', u5'⟩ := HC.out w2 hw2; have gw2 : g' ≠ w2.heap.size := (by have := hw2.size; omega); have gw2' := gw2.symm)
      | (go_at_call 50; refine (l2Old_any (W0.drew.alloc (.cells #[.int .i64 0, .int .i64 0, .int .i64 0, .int .i64 0, .int .i64 0, .slice none 0 0, .slice none 0 0, .int .i64 0, .string ⟨#[]⟩] 28))).mono ?_; rintro e w1 ⟨rfl, hb1⟩; have hw1 : Below w.heap.size w w1 := (hb0.drew.alloc hb0.size _).trans (hb1.mono (hb0.drew.alloc hb0.size _).size); have hz1 : Below W0.heap.size W0 w1 := ((Below.refl W0.heap.size W0).drew.alloc (Nat.le_refl _) _).trans (hb1.mono ((Below.refl W0.heap.size W0).drew.alloc (Nat.le_refl _) _).size); have hs1 := hz1.size; have hP1 : w1.heap[W0.heap.size]? = some (.cells #[.int .i64 0, .int .i64 0, .int .i64 0, .int .i64 0, .int .i64 0, .slice none 0 0, .slice none 0 0, .int .i64 0, .string ⟨#[]⟩] 28) := eb_call (heap_alloc_new W0.drew (.cells #[.int .i64 0, .int .i64 0, .int .i64 0, .int .i64 0, .int .i64 0, .slice none 0 0, .slice none 0 0, .int .i64 0, .string ⟨#[]⟩] 28)) hb1; obtain ⟨u4', u5'⟩ := HC.out w1 hw1; have gw1 : g' ≠ w1.heap.size := (by have := hw1.size; omega); have gw1' := gw1.symm; have mk1 : True := trivial)
      | (go_at_call 50; refine (l2Old_any W0.drew).mono ?_; rintro e w1 ⟨rfl, hb1⟩; have hw1 : Below w.heap.size w w1 := hb0.drew.trans (hb1.mono hb0.size); have hz1 : Below W0.heap.size W0 w1 := (Below.refl W0.heap.size W0).drew.trans hb1; have hs1 := hz1.size; obtain ⟨u4', u5'⟩ := HC.out w1 hw1; have gw1 : g' ≠ w1.heap.size := (by have := hw1.size; omega); have gw1' := gw1.symm; have mk1 : True := trivial))
  all_goals
    have HR2 := (show w2.heap[w.heap.size]? = _ from (hw2'.block w.heap.size sW0).trans HR0)
    have s01 := hs1
    have s12 := hb2.size
    have sal : ∀ o : Obj, (w1.alloc o).heap.size = w1.heap.size + 1 := fun o => by simp
    try simp only [sal] at s12
    try simp only [sal] at hOk
    try simp only [sal] at hOe
  all_goals
    first
    | (have hG_w1 : w2.heap[w1.heap.size]? = some _ := hP2
       have hX := put9_box hP2 (.int .i64 q.kind) (.int .i64 q.tx) (.int .i64 q.id) (.int .i64 q.root) (.int .i64 q.count) (.slice ka q.ks.length kc) (.slice ea q.es.length ec) (.int .i64 q.next) (.string q.data)
       have hF := put9_fr w2 w1.heap.size (.int .i64 q.kind) (.int .i64 q.tx) (.int .i64 q.id) (.int .i64 q.root) (.int .i64 q.count) (.slice ka q.ks.length kc) (.slice ea q.es.length ec) (.int .i64 q.next) (.string q.data)
       change Exit.then _ _ _ _ (put9 w2 w1.heap.size (.int .i64 q.kind) (.int .i64 q.tx) (.int .i64 q.id) (.int .i64 q.root) (.int .i64 q.count) (.slice ka q.ks.length kc) (.slice ea q.es.length ec) (.int .i64 q.next) (.string q.data))
       generalize put9 w2 w1.heap.size (.int .i64 q.kind) (.int .i64 q.tx) (.int .i64 q.id) (.int .i64 q.root) (.int .i64 q.count) (.slice ka q.ks.length kc) (.slice ea q.es.length ec) (.int .i64 q.next) (.string q.data) = X at hX hF ⊢
       have hPw : w.heap.size < w1.heap.size := (by omega)
       have hnk : ∀ g, (Value.slice ka q.ks.length kc).ownBlock = some g → g ≠ w1.heap.size := (fun g e => by have := (hOk.lt g e).1; omega)
       have hne : ∀ g, (Value.slice ea q.es.length ec).ownBlock = some g → g ≠ w1.heap.size := (fun g e => by have := (hOe.lt g e).1; omega)
       have hnr1 : ∀ g, (Value.slice ka q.ks.length kc).ownBlock = some g → g ≠ w.heap.size := (fun g e => by have := (hOk.lt g e).1; omega)
       have hnr2 : ∀ g, (Value.slice ea q.es.length ec).ownBlock = some g → g ≠ w.heap.size := (fun g e => by have := (hOe.lt g e).1; omega)
       have HRX := (hF.block w.heap.size (by omega) (by omega)).trans HR2
       have hbX := hw2.trans (hF.below hw2.size (fun g e => by omega))
       have hOkX := owns_base (base' := w.heap.size) (owns_fr hOk hF hnk) (by omega)
       have hOeX := owns_base (base' := w.heap.size) (owns_fr hOe hF hne) (by omega)
       generalize w1.heap.size = P at hX hPw hnk hne ⊢)
    | (have hG_W0 : w2.heap[W0.heap.size]? = some _ := hP2
       have s1x : W0.heap.size < w1.heap.size := (Array.getElem?_eq_some_iff.1 hP1).1
       have hX := put9_box hP2 (.int .i64 q.kind) (.int .i64 q.tx) (.int .i64 q.id) (.int .i64 q.root) (.int .i64 q.count) (.slice ka q.ks.length kc) (.slice ea q.es.length ec) (.int .i64 q.next) (.string q.data)
       have hF := put9_fr w2 W0.heap.size (.int .i64 q.kind) (.int .i64 q.tx) (.int .i64 q.id) (.int .i64 q.root) (.int .i64 q.count) (.slice ka q.ks.length kc) (.slice ea q.es.length ec) (.int .i64 q.next) (.string q.data)
       change Exit.then _ _ _ _ (put9 w2 W0.heap.size (.int .i64 q.kind) (.int .i64 q.tx) (.int .i64 q.id) (.int .i64 q.root) (.int .i64 q.count) (.slice ka q.ks.length kc) (.slice ea q.es.length ec) (.int .i64 q.next) (.string q.data))
       generalize put9 w2 W0.heap.size (.int .i64 q.kind) (.int .i64 q.tx) (.int .i64 q.id) (.int .i64 q.root) (.int .i64 q.count) (.slice ka q.ks.length kc) (.slice ea q.es.length ec) (.int .i64 q.next) (.string q.data) = X at hX hF ⊢
       have hPw : w.heap.size < W0.heap.size := (by omega)
       have hnk : ∀ g, (Value.slice ka q.ks.length kc).ownBlock = some g → g ≠ W0.heap.size := (fun g e => by have := (hOk.lt g e).1; omega)
       have hne : ∀ g, (Value.slice ea q.es.length ec).ownBlock = some g → g ≠ W0.heap.size := (fun g e => by have := (hOe.lt g e).1; omega)
       have hnr1 : ∀ g, (Value.slice ka q.ks.length kc).ownBlock = some g → g ≠ w.heap.size := (fun g e => by have := (hOk.lt g e).1; omega)
       have hnr2 : ∀ g, (Value.slice ea q.es.length ec).ownBlock = some g → g ≠ w.heap.size := (fun g e => by have := (hOe.lt g e).1; omega)
       have HRX := (hF.block w.heap.size (by omega) (by omega)).trans HR2
       have hbX := hw2.trans (hF.below hw2.size (fun g e => by omega))
       have hOkX := owns_base (base' := w.heap.size) (owns_fr hOk hF hnk) (by omega)
       have hOeX := owns_base (base' := w.heap.size) (owns_fr hOe hF hne) (by omega)
       generalize W0.heap.size = P at hX hPw hnk hne ⊢)
    | (have _ : w2.heap.size = w2.heap.size := rfl
       have hX := heap_alloc_new w2 (.cells #[.int .i64 q.kind, .int .i64 q.tx, .int .i64 q.id, .int .i64 q.root, .int .i64 q.count, .slice ka q.ks.length kc, .slice ea q.es.length ec, .int .i64 q.next, .string q.data] 28)
       have hF : Fr (fun x => x = w2.heap.size) w2 (w2.alloc (.cells #[.int .i64 q.kind, .int .i64 q.tx, .int .i64 q.id, .int .i64 q.root, .int .i64 q.count, .slice ka q.ks.length kc, .slice ea q.es.length ec, .int .i64 q.next, .string q.data] 28)) := Fr.of_below ((Below.refl _ _).alloc (Nat.le_refl _) _)
       generalize w2.alloc (.cells #[.int .i64 q.kind, .int .i64 q.tx, .int .i64 q.id, .int .i64 q.root, .int .i64 q.count, .slice ka q.ks.length kc, .slice ea q.es.length ec, .int .i64 q.next, .string q.data] 28) = X at hX hF ⊢
       have hPw : w.heap.size < w2.heap.size := (by omega)
       have hnk : ∀ g, (Value.slice ka q.ks.length kc).ownBlock = some g → g ≠ w2.heap.size := (fun g e => by have := (hOk.lt g e).2; omega)
       have hne : ∀ g, (Value.slice ea q.es.length ec).ownBlock = some g → g ≠ w2.heap.size := (fun g e => by have := (hOe.lt g e).2; omega)
       have hnr1 : ∀ g, (Value.slice ka q.ks.length kc).ownBlock = some g → g ≠ w.heap.size := (fun g e => by have := (hOk.lt g e).1; omega)
       have hnr2 : ∀ g, (Value.slice ea q.es.length ec).ownBlock = some g → g ≠ w.heap.size := (fun g e => by have := (hOe.lt g e).1; omega)
       have HRX := (hF.block w.heap.size hPw (by omega)).trans HR2
       have hbX := hw2.trans (hF.below hw2.size (fun g e => by omega))
       have hOkX := owns_base (base' := w.heap.size) (owns_fr hOk hF hnk) (by omega)
       have hOeX := owns_base (base' := w.heap.size) (owns_fr hOe hF hne) (by omega)
       generalize w2.heap.size = P at hX hPw hnk hne ⊢)
  all_goals
    obtain ⟨hfp, hfk, hfe⟩ := hfit
    have hY := hX
    have HRY := HRX
    have hbY := hbX
    have hOkY := hOkX
    have hOeY := hOeX
    clear HRB HC HB hb0 HR0 hb1 hw1 hb2 hw2 hw2' hF HR2 hz1 hOk hOe q4 q5 u4 u5 hX HRX hbX hOkX hOeX
    generalize X = Y at hY HRY hbY hOkY hOeY ⊢
    have hbyY := hb.below (hbY.mono hB)
    have hPY := (Array.getElem?_eq_some_iff.1 hY).1
    have scY := str_conv (w := Y.drew) hbyY
    obtain ⟨s5, s6, s0, s2, s3, s4, s7, s8, s1⟩ := box_slice hY
    obtain ⟨_, _, e2, hKY⟩ := RowsAt.of_owns kc2 hOkY rfl (getD_fit hfk dK)
    cases e2
    obtain ⟨_, _, e2, hEY⟩ := RowsAt.of_owns ec4 hOeY rfl (getD_fit hfe dE)
    cases e2
    have HEN : Hid (Calls Try.prog 30 #[.agg #[.int .i64 q.kind, .int .i64 q.tx, .int .i64 q.id, .int .i64 q.root, .int .i64 q.count, .slice ka q.ks.length kc, .slice ea q.es.length ec, .int .i64 q.next, .string q.data]] Y.drew fun e w' => ∃ v, e = .returned v ∧ w'.ownsRow Y.drew.heap.size 5 1 v (oldCodeOf q).length (u8s (oldCodeOf q)) ∧ Below Y.drew.heap.size Y.drew w') := specEncodeOld_any q hfp ka kc ea ec Y.drew w.heap.size Y.heap.size (Nat.le_refl _) hKY hEY
    have hcb := code_byte q
    have HBE : Hid (∀ X, Below Y.drew.heap.size Y.drew X → BytesAt X A B (some ⟨g', o', none⟩) 128 c bs) := fun X hX => hbyY.below (w := Y.drew) (hX.mono (Nat.le_trans hB hbY.size))
    clear hKY hEY
    generalize hcode : oldCodeOf q = code at HEN hcb
    have HCO : Hid (oldCodeOf q = code) := hcode
    clear hcode
    have hrk : ∀ g, (Value.slice ka q.ks.length kc).ownBlock = some g → g ≠ w.heap.size := hnr1
    have hre : ∀ g, (Value.slice ea q.es.length ec).ownBlock = some g → g ≠ w.heap.size := hnr2
    go_wp2_with fail
    cases okb
    · go_quiet (fail)
      all_goals
        have HRZ : (Y.drewN nq).heap[w.heap.size]? = _ := HRY
        have hbZ : Below w.heap.size w (Y.drewN nq) := hbY.trans ⟨rfl, rfl, rfl, Nat.le_refl _, fun _ _ => rfl⟩
        have hOkZ : (Y.drewN nq).ownsRow _ _ _ _ _ _ := hOkY
        have hOeZ : (Y.drewN nq).ownsRow _ _ _ _ _ _ := hOeY
        generalize Y.drewN nq = Z at HRZ hbZ hOkZ hOeZ ⊢
        clear s0 s1 s2 s3 s4 s5 s6 s7 s8 scY hY HRY hbY hOkY hOeY HEN HBE
        have HB10 := put10_box HRZ (.bool false) (.int .i64 0) (.int .i64 0) (.int .i64 0) (.int .i64 0) (.int .i64 0) (.slice none 0 0) (.slice none 0 0) (.int .i64 0) (.string ⟨#[]⟩)
        have hb9 : Below w.heap.size w (put10 Z w.heap.size (.bool false) (.int .i64 0) (.int .i64 0) (.int .i64 0) (.int .i64 0) (.int .i64 0) (.slice none 0 0) (.slice none 0 0) (.int .i64 0) (.string ⟨#[]⟩)) := hbZ.trans ((put10_fr Z w.heap.size (.bool false) (.int .i64 0) (.int .i64 0) (.int .i64 0) (.int .i64 0) (.int .i64 0) (.slice none 0 0) (.slice none 0 0) (.int .i64 0) (.string ⟨#[]⟩)).below hbZ.size (fun g e => by omega))
        have f8 := box_frozenq HRZ
        obtain ⟨d0, d1, d2, d3, d4, d5, d6, d7, d8, d9⟩ := box_ten HRZ
        have hOk9 := owns_fr hOkZ (put10_fr Z w.heap.size (.bool false) (.int .i64 0) (.int .i64 0) (.int .i64 0) (.int .i64 0) (.int .i64 0) (.slice none 0 0) (.slice none 0 0) (.int .i64 0) (.string ⟨#[]⟩)) (fun g1 e e' => hrk g1 e e')
        have hOe9 := owns_fr hOeZ (put10_fr Z w.heap.size (.bool false) (.int .i64 0) (.int .i64 0) (.int .i64 0) (.int .i64 0) (.int .i64 0) (.slice none 0 0) (.slice none 0 0) (.int .i64 0) (.string ⟨#[]⟩)) (fun g1 e e' => hre g1 e e')
        go_wp2
        show bodyPost _ _ _ _ _ (put10 Z w.heap.size (.bool false) (.int .i64 0) (.int .i64 0) (.int .i64 0) (.int .i64 0) (.int .i64 0) (.slice none 0 0) (.slice none 0 0) (.int .i64 0) (.string ⟨#[]⟩))
        clear d0 d1 d2 d3 d4 d5 d6 d7 d8 d9
        obtain ⟨d0, d1, d2, d3, d4, d5, d6, d7, d8, d9⟩ := box_ten HB10
        refine bodyPost_ret (v := .agg #[.bool false, .int .i64 0, .int .i64 0, .int .i64 0, .int .i64 0, .int .i64 0, .slice none 0 0, .slice none 0 0, .int .i64 0, .string ⟨#[]⟩]) (by simp [results, Try.results12, go_sem, d0, d1, d2, d3, d4, d5, d6, d7, d8, d9]) rfl ?_
        rw [HSD.out]
        exact ⟨.slice ka q.ks.length kc, .slice ea q.es.length ec, rfl, hOk9, hOe9, hor, hb9⟩
    · refine wp_region_noPanic ?_
      refine wp_region_held_drew (S := (fun w' => w'.cell? ⟨P, 0, none⟩ = some (.int .i64 q.kind) ∧ w'.cell? ⟨P, 1, none⟩ = some (.int .i64 q.tx) ∧ w'.cell? ⟨P, 2, none⟩ = some (.int .i64 q.id) ∧ w'.cell? ⟨P, 3, none⟩ = some (.int .i64 q.root) ∧ w'.cell? ⟨P, 4, none⟩ = some (.int .i64 q.count) ∧ w'.cell? ⟨P, 5, none⟩ = some (.slice ka q.ks.length kc) ∧ w'.cell? ⟨P, 6, none⟩ = some (.slice ea q.es.length ec) ∧ w'.cell? ⟨P, 7, none⟩ = some (.int .i64 q.next) ∧ w'.cell? ⟨P, 8, none⟩ = some (.string q.data) ∧ (convert 22 9 (.slice (some ⟨g', o', none⟩) 128 c)).run Try.prog w' = .ok (.string (toB bs)) w')) (by kernel_rfl) ?_ (fun hHeld => ?_)
      · exact ⟨s0, s1, s2, s3, s4, s5, s6, s7, s8, scY⟩
      refine wpAnyH_take (i := 0) (oi := { dst := some 24, op := .move (.tmp 4), type := 4, pos := "l2_page.go:264", after := #[], guard := none }) (v := ?_) rfl (by kernel_rfl) (by kernel_rfl) (by kernel_rfl) (fun _ _ _ h => h) (Or.inl ⟨by rfl, ?_⟩) (by assumption) ?_
      rotate_left 1
      · intro w hSw; (try dsimp only at hSw); go_simp; try (with_reducible rfl)
      try simp only [Act.put, List.setIfInBounds_toArray, List.set_cons_zero, List.set_cons_succ]
      refine wpAnyH_take (i := 1) (oi := { dst := some 25, op := .unOp .not 4 (.tmp 24), type := 4, pos := "l2_page.go:264", after := #[{ on := 0, ground := .data }], guard := none }) (v := ?_) rfl (by kernel_rfl) (by kernel_rfl) (by kernel_rfl) (fun _ _ _ h => h) (Or.inl ⟨by rfl, ?_⟩) (by assumption) ?_
      rotate_left 1
      · intro w hSw; (try dsimp only at hSw); go_simp; try (with_reducible rfl)
      try simp only [Act.put, List.setIfInBounds_toArray, List.set_cons_zero, List.set_cons_succ]
      refine wpAnyH_take (i := 2) (oi := { dst := some 26, op := .move (.tmp 25), type := 4, pos := "l2_page.go:264", after := #[{ on := 1, ground := .data }], guard := none }) (v := ?_) rfl (by kernel_rfl) (by kernel_rfl) (by kernel_rfl) (fun _ _ _ h => h) (Or.inl ⟨by rfl, ?_⟩) (by assumption) ?_
      rotate_left 1
      · intro w hSw; (try dsimp only at hSw); go_simp; try (with_reducible rfl)
      try simp only [Act.put, List.setIfInBounds_toArray, List.set_cons_zero, List.set_cons_succ]
      refine wpAnyH_take (i := 6) (oi := { dst := some 30, op := .move (.tmp 0), type := 22, pos := "l2_page.go:264", after := #[{ on := 2, ground := .guard }], guard := some (2, false) }) (v := ?_) rfl (by kernel_rfl) (by kernel_rfl) (by kernel_rfl) (fun _ _ _ h => h) (Or.inl ⟨by rfl, ?_⟩) (by assumption) ?_
      rotate_left 1
      · intro w hSw; (try dsimp only at hSw); go_simp; try (with_reducible rfl)
      try simp only [Act.put, List.setIfInBounds_toArray, List.set_cons_zero, List.set_cons_succ]
      refine wpAnyH_take (i := 7) (oi := { dst := some 31, op := .convert 22 9 (.tmp 30), type := 9, pos := "l2_page.go:264", after := #[{ on := 6, ground := .data }, { on := 2, ground := .guard }], guard := some (2, false) }) (v := ?_) rfl (by kernel_rfl) (by kernel_rfl) (by kernel_rfl) (fun _ _ _ h => h) (Or.inl ⟨by rfl, ?_⟩) (by assumption) ?_
      rotate_left 1
      · intro w hSw; (try dsimp only at hSw); go_simp; try (with_reducible rfl)
      try simp only [Act.put, List.setIfInBounds_toArray, List.set_cons_zero, List.set_cons_succ]
      refine wpAnyH_take (i := 3) (oi := { dst := some 27, op := .load 28 (.tmp 3), type := 28, pos := "l2_page.go:264", after := #[{ on := 2, ground := .guard }], guard := some (2, false) }) (v := ?_) rfl (by kernel_rfl) (by kernel_rfl) (by kernel_rfl) (fun _ _ _ h => h) (Or.inl ⟨by rfl, ?_⟩) (by assumption) ?_
      rotate_left 1
      · intro w hSw; (try dsimp only at hSw); go_simp; try (with_reducible rfl)
      try simp only [Act.put, List.setIfInBounds_toArray, List.set_cons_zero, List.set_cons_succ]
      refine wpAnyH_ready (rs := [4]) (by kernel_rfl) (by simp) ?_
      refine AllReadyH.cons (o := { dst := some 28, op := .call { callee := .value (.func 30), args := #[.tmp 27], argTypes := #[28] }, type := 22, pos := "l2_page.go:264", after := #[{ on := 3, ground := .data }, { on := 2, ground := .chain }, { on := 2, ground := .guard }], guard := some (2, false) }) rfl (fun K hK => ?_) AllReadyH.nil
      go_simp
      refine HEN.out.mono ?_; rintro e w6 ⟨v6, rfl, hO6, hb6⟩; obtain ⟨a6, c6, rfl⟩ := own_shape hO6; have hY6 := eb_call (w' := Y.drew) hY hb6; obtain ⟨t5, t6, t0, t2, t3, t4, t7, t8, t1⟩ := box_slice hY6; have sc6 := str_conv (HBE.out w6 hb6); have scR := str_conv (bytesAt_row hO6 hcb)
      go_wp2_with fail
      refine hK.out _ _ ⟨t0, t1, t2, t3, t4, t5, t6, t7, t8, sc6⟩ (fun hHeld => ?_)
      clear hK K
      try simp only [Act.put, List.setIfInBounds_toArray, List.set_cons_zero, List.set_cons_succ]
      refine wpAnyH_ready (rs := [5]) (by kernel_rfl) (by simp) ?_
      refine AllReadyH.cons (o := { dst := some 29, op := .convert 22 9 (.tmp 28), type := 9, pos := "l2_page.go:264", after := #[{ on := 4, ground := .data }, { on := 2, ground := .guard }], guard := some (2, false) }) rfl (fun K hK => ?_) AllReadyH.nil
      go_simp
      refine hK.out _ _ ⟨t0, t1, t2, t3, t4, t5, t6, t7, t8, sc6⟩ (fun hHeld => ?_)
      clear hK K
      try simp only [Act.put, List.setIfInBounds_toArray, List.set_cons_zero, List.set_cons_succ]
      refine wpAnyH_take (i := 8) (oi := { dst := some 32, op := .binOp .neq 9 (.tmp 29) (.tmp 31) 9, type := 4, pos := "l2_page.go:264", after := #[{ on := 5, ground := .data }, { on := 7, ground := .data }, { on := 2, ground := .guard }], guard := some (2, false) }) (v := ?_) rfl (by kernel_rfl) (by kernel_rfl) (by kernel_rfl) (fun _ _ _ h => h) (Or.inl ⟨by rfl, ?_⟩) (by assumption) ?_
      rotate_left 1
      · intro w hSw; (try dsimp only at hSw); go_simp; try (with_reducible rfl)
      try simp only [Act.put, List.setIfInBounds_toArray, List.set_cons_zero, List.set_cons_succ]
      refine wpAnyH_take (i := 9) (oi := { dst := some 33, op := .pick (.tmp 26) (.const (.bool true)) (.tmp 32), type := 4, pos := "l2_page.go:264", after := #[{ on := 2, ground := .data }, { on := 8, ground := .data }], guard := none }) (v := ?_) rfl (by kernel_rfl) (by kernel_rfl) (by kernel_rfl) (fun _ _ _ h => h) (Or.inl ⟨by rfl, ?_⟩) (by assumption) ?_
      rotate_left 1
      · intro w hSw; (try dsimp only at hSw); go_simp; try (with_reducible rfl)
      try simp only [Act.put, List.setIfInBounds_toArray, List.set_cons_zero, List.set_cons_succ]
      refine wpAnyH_done (by kernel_rfl) ?_ _
      refine NoPanic.normal ?_
      all_goals
        have hbZ : Below w.heap.size w w6 := hbY.drew.trans (hb6.mono hbY.size)
        have HRZ := eb_call (w' := Y.drew) HRY hb6
        have hOkZ := owns_below (w := Y.drew) hOkY hb6
        have hOeZ := owns_below (w := Y.drew) hOeY hb6
        clear t0 t1 t2 t3 t4 t5 t6 t7 t8 s0 s1 s2 s3 s4 s5 s6 s7 s8 sc6 scR scY hY
        by_cases hc : code = bs
        · have hcmp : (!((toB code).toList == (toB bs).toList)) = false := by rw [toB_cmp hcb hbb, decide_eq_true hc]; rfl
          rw [hcmp]
          obtain ⟨t5, t6, t0, t2, t3, t4, t7, t8, t1⟩ := box_slice hY6
          have HB10 := put10_box HRZ (.bool true) (.int .i64 q.kind) (.int .i64 q.tx) (.int .i64 q.id) (.int .i64 q.root) (.int .i64 q.count) (.slice ka q.ks.length kc) (.slice ea q.es.length ec) (.int .i64 q.next) (.string q.data)
          have hb9 : Below w.heap.size w (put10 w6 w.heap.size (.bool true) (.int .i64 q.kind) (.int .i64 q.tx) (.int .i64 q.id) (.int .i64 q.root) (.int .i64 q.count) (.slice ka q.ks.length kc) (.slice ea q.es.length ec) (.int .i64 q.next) (.string q.data)) := hbZ.trans ((put10_fr w6 w.heap.size (.bool true) (.int .i64 q.kind) (.int .i64 q.tx) (.int .i64 q.id) (.int .i64 q.root) (.int .i64 q.count) (.slice ka q.ks.length kc) (.slice ea q.es.length ec) (.int .i64 q.next) (.string q.data)).below hbZ.size (fun g e => by omega))
          have f8 := box_frozenq HRZ
          obtain ⟨d0, d1, d2, d3, d4, d5, d6, d7, d8, d9⟩ := box_ten HRZ
          have hOk9 := owns_fr hOkZ (put10_fr w6 w.heap.size (.bool true) (.int .i64 q.kind) (.int .i64 q.tx) (.int .i64 q.id) (.int .i64 q.root) (.int .i64 q.count) (.slice ka q.ks.length kc) (.slice ea q.es.length ec) (.int .i64 q.next) (.string q.data)) (fun g1 e e' => hrk g1 e e')
          have hOe9 := owns_fr hOeZ (put10_fr w6 w.heap.size (.bool true) (.int .i64 q.kind) (.int .i64 q.tx) (.int .i64 q.id) (.int .i64 q.root) (.int .i64 q.count) (.slice ka q.ks.length kc) (.slice ea q.es.length ec) (.int .i64 q.next) (.string q.data)) (fun g1 e e' => hre g1 e e')
          go_wp2
          show bodyPost _ _ _ _ _ (put10 w6 w.heap.size (.bool true) (.int .i64 q.kind) (.int .i64 q.tx) (.int .i64 q.id) (.int .i64 q.root) (.int .i64 q.count) (.slice ka q.ks.length kc) (.slice ea q.es.length ec) (.int .i64 q.next) (.string q.data))
          clear d0 d1 d2 d3 d4 d5 d6 d7 d8 d9
          obtain ⟨d0, d1, d2, d3, d4, d5, d6, d7, d8, d9⟩ := box_ten HB10
          refine bodyPost_ret (v := .agg #[.bool true, .int .i64 q.kind, .int .i64 q.tx, .int .i64 q.id, .int .i64 q.root, .int .i64 q.count, .slice ka q.ks.length kc, .slice ea q.es.length ec, .int .i64 q.next, .string q.data]) (by simp [results, Try.results12, go_sem, d0, d1, d2, d3, d4, d5, d6, d7, d8, d9]) rfl ?_
          have hR : ((sDec bs).2 && decide (oldCodeOf (sDec bs).1 = bs)) = true := by rw [HSD.out]; show (true && decide (oldCodeOf q = bs)) = true; rw [HCO.out, decide_eq_true hc]; rfl
          rw [hR, HSD.out]
          exact ⟨.slice ka q.ks.length kc, .slice ea q.es.length ec, rfl, hOk9, hOe9, hor, hb9⟩
        · have hcmp : (!((toB code).toList == (toB bs).toList)) = true := by rw [toB_cmp hcb hbb, decide_eq_false hc]; rfl
          rw [hcmp]
          have HB10 := put10_box HRZ (.bool false) (.int .i64 0) (.int .i64 0) (.int .i64 0) (.int .i64 0) (.int .i64 0) (.slice none 0 0) (.slice none 0 0) (.int .i64 0) (.string ⟨#[]⟩)
          have hb9 : Below w.heap.size w (put10 w6 w.heap.size (.bool false) (.int .i64 0) (.int .i64 0) (.int .i64 0) (.int .i64 0) (.int .i64 0) (.slice none 0 0) (.slice none 0 0) (.int .i64 0) (.string ⟨#[]⟩)) := hbZ.trans ((put10_fr w6 w.heap.size (.bool false) (.int .i64 0) (.int .i64 0) (.int .i64 0) (.int .i64 0) (.int .i64 0) (.slice none 0 0) (.slice none 0 0) (.int .i64 0) (.string ⟨#[]⟩)).below hbZ.size (fun g e => by omega))
          have f8 := box_frozenq HRZ
          obtain ⟨d0, d1, d2, d3, d4, d5, d6, d7, d8, d9⟩ := box_ten HRZ
          have hOk9 := owns_fr hOkZ (put10_fr w6 w.heap.size (.bool false) (.int .i64 0) (.int .i64 0) (.int .i64 0) (.int .i64 0) (.int .i64 0) (.slice none 0 0) (.slice none 0 0) (.int .i64 0) (.string ⟨#[]⟩)) (fun g1 e e' => hrk g1 e e')
          have hOe9 := owns_fr hOeZ (put10_fr w6 w.heap.size (.bool false) (.int .i64 0) (.int .i64 0) (.int .i64 0) (.int .i64 0) (.int .i64 0) (.slice none 0 0) (.slice none 0 0) (.int .i64 0) (.string ⟨#[]⟩)) (fun g1 e e' => hre g1 e e')
          go_wp2
          show bodyPost _ _ _ _ _ (put10 w6 w.heap.size (.bool false) (.int .i64 0) (.int .i64 0) (.int .i64 0) (.int .i64 0) (.int .i64 0) (.slice none 0 0) (.slice none 0 0) (.int .i64 0) (.string ⟨#[]⟩))
          clear d0 d1 d2 d3 d4 d5 d6 d7 d8 d9
          obtain ⟨d0, d1, d2, d3, d4, d5, d6, d7, d8, d9⟩ := box_ten HB10
          refine bodyPost_ret (v := .agg #[.bool false, .int .i64 0, .int .i64 0, .int .i64 0, .int .i64 0, .int .i64 0, .slice none 0 0, .slice none 0 0, .int .i64 0, .string ⟨#[]⟩]) (by simp [results, Try.results12, go_sem, d0, d1, d2, d3, d4, d5, d6, d7, d8, d9]) rfl ?_
          have hR : ((sDec bs).2 && decide (oldCodeOf (sDec bs).1 = bs)) = false := by rw [HSD.out]; show (true && decide (oldCodeOf q = bs)) = false; rw [HCO.out, decide_eq_false hc]; rfl
          rw [hR, HSD.out]
          exact ⟨.slice ka q.ks.length kc, .slice ea q.es.length ec, rfl, hOk9, hOe9, hor, hb9⟩
theorem specDecode_short (ba : Option Addr) (n bc : Nat) (hn : n ≠ 128) (w : World) :
    Calls Try.prog 12 #[.slice ba n bc] w fun e w' => e = .returned (.agg #[.bool false, .int .i64 0, .int .i64 0, .int .i64 0, .int .i64 0, .int .i64 0, .slice none 0 0, .slice none 0 0, .int .i64 0, .string ⟨#[]⟩]) ∧ Below w.heap.size w w' := by
  have hne : ((n : Int) != 128) = true := by simp; omega
  go_enter Try.func12, Try.ntmps12
  go_wp2
  exact bodyPost_ret (v := .agg #[.bool false, .int .i64 0, .int .i64 0, .int .i64 0, .int .i64 0, .int .i64 0, .slice none 0 0, .slice none 0 0, .int .i64 0, .string ⟨#[]⟩]) (by simp [results, Try.results12, go_sem]) rfl ⟨rfl, (Below.refl _ _).alloc (Nat.le_refl _) _⟩
end Old
end Go.Proofs.Ytcmhobbpeaeebaa
namespace Go.Proofs.Ytcmhobbpeaeebaa
namespace Old
open Go.RowKit
set_option linter.unusedVariables false
set_option maxRecDepth 100000

theorem oldCursorR (g o c : Nat) (w : World) :
    Calls Try.prog 51 #[.slice (some ⟨g, o, none⟩) 128 c] w fun e w' => e = .returned (.pointer (some ⟨w.heap.size, 0, none⟩)) ∧ RCur w' w.heap.size g o c true 85 86 0 ∧ Below w.heap.size w w' := by
  go_enter Try.func51, Try.ntmps51
  go_wp2
  go_ret
  exact ⟨rfl, ⟨heap_alloc_new w _⟩, (Below.refl _ _).alloc (Nat.le_refl _) _⟩
set_option maxHeartbeats 1600000 in
theorem decode_any (g o c : Nat) (bs : List Int) (w : World) (A B : Nat) (hB : B ≤ w.heap.size) (hb : BytesAt w A B (some ⟨g, o, none⟩) 128 c bs) :
    Calls Try.prog 14 #[.slice (some ⟨g, o, none⟩) 128 c] w fun e w' => ∃ vk ve, e = .returned (resVal (decide (oldCodeOf (decP bs) = bs)) (decP bs) vk ve) ∧ w'.ownsRow w.heap.size 100 2 vk (decP bs).ks.length (rowsOf kidCells (decP bs).ks) ∧ w'.ownsRow w.heap.size 102 4 ve (decP bs).es.length (rowsOf entCells (decP bs).es) ∧ (vk = .slice none 0 0 ∨ ve = .slice none 0 0) ∧ Below w.heap.size w w' := by
  go_enter Try.func14, Try.ntmps14
  go_wp2_with fail
  have hb0 : Below w.heap.size w (w.alloc (.cells #[.bool false, .int .i64 0, .int .i64 0, .int .i64 0, .int .i64 0, .int .i64 0, .slice none 0 0, .slice none 0 0, .int .i64 0, .string ⟨#[]⟩] 32)) := (Below.refl _ _).alloc (Nat.le_refl _) _
  have HR0 := heap_alloc_new w (.cells #[.bool false, .int .i64 0, .int .i64 0, .int .i64 0, .int .i64 0, .int .i64 0, .slice none 0 0, .slice none 0 0, .int .i64 0, .string ⟨#[]⟩] 32)
  generalize w.alloc (.cells #[.bool false, .int .i64 0, .int .i64 0, .int .i64 0, .int .i64 0, .int .i64 0, .slice none 0 0, .slice none 0 0, .int .i64 0, .string ⟨#[]⟩] 32) = W0 at hb0 HR0 ⊢
  have hN0 := (Array.getElem?_eq_some_iff.1 HR0).1
  refine (oldCursorR g o c W0).mono ?_
  rintro e w1 ⟨rfl, hC1, hb1⟩
  have HR1 := eb_call HR0 hb1
  have hbw1 := hb0.trans (hb1.mono hb0.size)
  have hby1 := hb.below (hbw1.mono hB)
  have hWC : w.heap.size < W0.heap.size := hN0
  have hC1l := (Array.getElem?_eq_some_iff.1 hC1.box).1
  have hA1 : RAt w1 W0.heap.size g o c A B bs 0 := ⟨hC1, hby1, by have := hb0.size; omega, Nat.le_trans hB hbw1.size, by omega⟩
  clear HR0 hb0 hb1 hC1 hby1 hN0
  generalize W0.heap.size = C at hWC hC1l hA1 ⊢
  obtain ⟨c0, c1, c2, c3, c4⟩ := hA1.cur.cells
  go_wp2_with fail
  refine (take_any C g o c _ _ 0 true 1 (by omega) (by omega) bs A B hA1.low w1 hA1.top hA1.byt hA1.cur).mono ?_
  rintro e w2 ⟨a2, c2', rfl, _, hM2⟩
  have hA2 : RAt w2 C g o c A B bs 1 := hA1.mv hM2 (by decide)
  have hF2 : Fr (fun x => x = C) w1 w2 := hM2.2
  clear c0 c1 c2 c3 c4 hM2
  obtain ⟨c0, c1, c2, c3, c4⟩ := hA2.cur.cells
  have hkc := rN_one hA1 2
  have HDP : Hid (decP bs = readP bs 3 (rN bs 1 1) (rN bs 2 1).toNat) := rfl
  have hft := readP_fit hA1 3 (rN bs 1 1) (rN bs 2 1).toNat
  obtain ⟨n, hnn⟩ : ∃ n : Nat, rN bs 2 1 = (n : Int) := ⟨(rN bs 2 1).toNat, by omega⟩
  have hn : n ≤ 255 := by omega
  clear hA1
  go_wp2_with fail
  go_region_held3 (fun w' => w'.cell? ⟨C, 4, none⟩ = some (.func (.func 86) #[.pointer (some ⟨C, 0, none⟩)] #[])) (go_keep)
    (first
      | (go_at_call 86; refine (Get C g o c A B bs 2 1 (by omega) w3 hA3).mono ?_; rintro e w4 ⟨rfl, hM4⟩; have hA4 : RAt w4 C g o c A B bs 3 := hA3.mv hM4 (by decide); have hF4 := hF3.trans hM4.2; obtain ⟨_, _, _, _, q4⟩ := hA4.cur.cells)
      | (go_at_call 86; refine (Get C g o c A B bs 1 1 (by omega) w2.drew hA2.drew).mono ?_; rintro e w3 ⟨rfl, hM3⟩; have hA3 : RAt w3 C g o c A B bs 2 := hA2.drew.mv hM3 (by decide); have hF3 : Fr (fun x => x = C) w1 w3 := hF2.trans hM3.redraw.2; obtain ⟨_, _, _, _, q4⟩ := hA3.cur.cells))
  have HR4 := (hF4.block w.heap.size (by have := (Array.getElem?_eq_some_iff.1 HR1).1; omega) (by omega)).trans HR1
  have hbw4 := hbw1.trans (hF4.below hbw1.size (fun g e => by omega))
  rw [hnn, Int.toNat_natCast] at HDP hft
  clear hnn
  generalize rN bs 1 1 = kd at HDP hft ⊢
  clear hM3 hM4 hA2 hA3 hF2 hF3 hF4 HR1 hbw1 c0 c1 c2 c3 c4 hkc
  obtain ⟨c0, c1, c2, c3, c4⟩ := hA4.cur.cells
  go_wp2_with fail
  refine (readBody_any C g o c A B bs 3 kd n hn w4 hA4).mono ?_
  rintro e w6 ⟨v6, rfl, ⟨vk, ve, rfl, hOk, hOe, hor⟩, hF6⟩
  have HR6 := (hF6.block w.heap.size (by have := (Array.getElem?_eq_some_iff.1 HR4).1; omega) (by omega)).trans HR4
  have hbw6 := hbw4.trans (hF6.below hbw4.size (fun g e => by omega))
  have hby6 := hb.below (hbw6.mono hB)
  obtain ⟨hfp, hfk, hfe⟩ := hft
  have HDP2 : Hid (decP bs = readP bs 3 kd n) := HDP
  have HW5 := (Array.getElem?_eq_some_iff.1 HR4).1
  clear HDP HR4 hA4 hF6 hb
  generalize hq : readP bs 3 kd n = q at hOk hOe hfp hfk hfe HDP2 ⊢
  clear hq
  obtain ⟨vka, vkc, rfl⟩ := own_shape hOk
  obtain ⟨vea, vec, rfl⟩ := own_shape hOe
  obtain ⟨_, _, e2, hK7⟩ := RowsAt.of_owns kc2 hOk rfl (getD_fit hfk dK)
  cases e2
  obtain ⟨_, _, e2, hE7⟩ := RowsAt.of_owns ec4 hOe rfl (getD_fit hfe dE)
  cases e2
  go_wp2_with fail
  refine (coded_any q hfp vka vkc vea vec (some ⟨g, o, none⟩) c bs w6 _ _ A B (Nat.le_refl _) (Nat.le_trans hB hbw6.size) hK7 hE7 hby6).mono ?_
  rintro e w8 ⟨rfl, hb8⟩
  have hbw8 := hbw6.trans (hb8.mono hbw6.size)
  have HR8 := eb_call HR6 hb8
  have hOk8 := owns_below hOk hb8
  have hOe8 := owns_below hOe hb8
  have hs5 := hbw4.size
  have hW5 : w.heap.size < w4.heap.size := HW5
  clear HR6 hby6 hK7 hE7 hb8 hOk hOe hbw6
  by_cases hd : oldCodeOf q = bs
  · have hdec : decide (oldCodeOf q = bs) = true := by simpa using hd
    rw [hdec]
    simp only [resVal, if_true]
    have HB10 := put10_box HR8 (.bool true) (.int .i64 q.kind) (.int .i64 q.tx) (.int .i64 q.id) (.int .i64 q.root) (.int .i64 q.count) (.slice vka q.ks.length vkc) (.slice vea q.es.length vec) (.int .i64 q.next) (.string q.data)
    have hb9 : Below w.heap.size w (put10 w8 w.heap.size (.bool true) (.int .i64 q.kind) (.int .i64 q.tx) (.int .i64 q.id) (.int .i64 q.root) (.int .i64 q.count) (.slice vka q.ks.length vkc) (.slice vea q.es.length vec) (.int .i64 q.next) (.string q.data)) := hbw8.trans ((put10_fr w8 w.heap.size (.bool true) (.int .i64 q.kind) (.int .i64 q.tx) (.int .i64 q.id) (.int .i64 q.root) (.int .i64 q.count) (.slice vka q.ks.length vkc) (.slice vea q.es.length vec) (.int .i64 q.next) (.string q.data)).below hbw8.size (fun g e => by omega))
    have f8 := box_frozenq HR8
    obtain ⟨d0, d1, d2, d3, d4, d5, d6, d7, d8, d9⟩ := box_ten HR8
    have hOk9 := owns_base (base' := w.heap.size) (owns_fr hOk8 (put10_fr w8 w.heap.size (.bool true) (.int .i64 q.kind) (.int .i64 q.tx) (.int .i64 q.id) (.int .i64 q.root) (.int .i64 q.count) (.slice vka q.ks.length vkc) (.slice vea q.es.length vec) (.int .i64 q.next) (.string q.data)) (fun g' e e' => by have := (hOk8.lt g' e).1; omega)) (by omega)
    have hOe9 := owns_base (base' := w.heap.size) (owns_fr hOe8 (put10_fr w8 w.heap.size (.bool true) (.int .i64 q.kind) (.int .i64 q.tx) (.int .i64 q.id) (.int .i64 q.root) (.int .i64 q.count) (.slice vka q.ks.length vkc) (.slice vea q.es.length vec) (.int .i64 q.next) (.string q.data)) (fun g' e e' => by have := (hOe8.lt g' e).1; omega)) (by omega)
    go_wp2
    show bodyPost _ _ _ _ _ (put10 w8 w.heap.size (.bool true) (.int .i64 q.kind) (.int .i64 q.tx) (.int .i64 q.id) (.int .i64 q.root) (.int .i64 q.count) (.slice vka q.ks.length vkc) (.slice vea q.es.length vec) (.int .i64 q.next) (.string q.data))
    clear d0 d1 d2 d3 d4 d5 d6 d7 d8 d9
    obtain ⟨d0, d1, d2, d3, d4, d5, d6, d7, d8, d9⟩ := box_ten HB10
    refine bodyPost_ret (v := .agg #[.bool true, .int .i64 q.kind, .int .i64 q.tx, .int .i64 q.id, .int .i64 q.root, .int .i64 q.count, .slice vka q.ks.length vkc, .slice vea q.es.length vec, .int .i64 q.next, .string q.data]) (by simp [results, Try.results14, go_sem, d0, d1, d2, d3, d4, d5, d6, d7, d8, d9]) rfl ?_
    rw [HDP2.out]
    exact ⟨.slice vka q.ks.length vkc, .slice vea q.es.length vec, by rw [hdec]; rfl, hOk9, hOe9, hor, hb9⟩
  · have hdec : decide (oldCodeOf q = bs) = false := by simpa using hd
    rw [hdec]
    simp only [resVal, Bool.false_eq_true, if_false]
    have HB10 := put10_box HR8 (.bool false) (.int .i64 0) (.int .i64 0) (.int .i64 0) (.int .i64 0) (.int .i64 0) (.slice none 0 0) (.slice none 0 0) (.int .i64 0) (.string ⟨#[]⟩)
    have hb9 : Below w.heap.size w (put10 w8 w.heap.size (.bool false) (.int .i64 0) (.int .i64 0) (.int .i64 0) (.int .i64 0) (.int .i64 0) (.slice none 0 0) (.slice none 0 0) (.int .i64 0) (.string ⟨#[]⟩)) := hbw8.trans ((put10_fr w8 w.heap.size (.bool false) (.int .i64 0) (.int .i64 0) (.int .i64 0) (.int .i64 0) (.int .i64 0) (.slice none 0 0) (.slice none 0 0) (.int .i64 0) (.string ⟨#[]⟩)).below hbw8.size (fun g e => by omega))
    have f8 := box_frozenq HR8
    obtain ⟨d0, d1, d2, d3, d4, d5, d6, d7, d8, d9⟩ := box_ten HR8
    have hOk9 := owns_base (base' := w.heap.size) (owns_fr hOk8 (put10_fr w8 w.heap.size (.bool false) (.int .i64 0) (.int .i64 0) (.int .i64 0) (.int .i64 0) (.int .i64 0) (.slice none 0 0) (.slice none 0 0) (.int .i64 0) (.string ⟨#[]⟩)) (fun g' e e' => by have := (hOk8.lt g' e).1; omega)) (by omega)
    have hOe9 := owns_base (base' := w.heap.size) (owns_fr hOe8 (put10_fr w8 w.heap.size (.bool false) (.int .i64 0) (.int .i64 0) (.int .i64 0) (.int .i64 0) (.int .i64 0) (.slice none 0 0) (.slice none 0 0) (.int .i64 0) (.string ⟨#[]⟩)) (fun g' e e' => by have := (hOe8.lt g' e).1; omega)) (by omega)
    go_wp2
    show bodyPost _ _ _ _ _ (put10 w8 w.heap.size (.bool false) (.int .i64 0) (.int .i64 0) (.int .i64 0) (.int .i64 0) (.int .i64 0) (.slice none 0 0) (.slice none 0 0) (.int .i64 0) (.string ⟨#[]⟩))
    clear d0 d1 d2 d3 d4 d5 d6 d7 d8 d9
    obtain ⟨d0, d1, d2, d3, d4, d5, d6, d7, d8, d9⟩ := box_ten HB10
    refine bodyPost_ret (v := .agg #[.bool false, .int .i64 0, .int .i64 0, .int .i64 0, .int .i64 0, .int .i64 0, .slice none 0 0, .slice none 0 0, .int .i64 0, .string ⟨#[]⟩]) (by simp [results, Try.results14, go_sem, d0, d1, d2, d3, d4, d5, d6, d7, d8, d9]) rfl ?_
    rw [HDP2.out]
    exact ⟨.slice vka q.ks.length vkc, .slice vea q.es.length vec, by rw [hdec]; rfl, hOk9, hOe9, hor, hb9⟩
theorem decode_short (ba : Option Addr) (n bc : Nat) (hn : n ≠ 128) (w : World) :
    Calls Try.prog 14 #[.slice ba n bc] w fun e w' => e = .returned (.agg #[.bool false, .int .i64 0, .int .i64 0, .int .i64 0, .int .i64 0, .int .i64 0, .slice none 0 0, .slice none 0 0, .int .i64 0, .string ⟨#[]⟩]) ∧ Below w.heap.size w w' := by
  have hne : ((n : Int) != 128) = true := by simp; omega
  go_enter Try.func14, Try.ntmps14
  go_wp2
  exact bodyPost_ret (v := .agg #[.bool false, .int .i64 0, .int .i64 0, .int .i64 0, .int .i64 0, .int .i64 0, .slice none 0 0, .slice none 0 0, .int .i64 0, .string ⟨#[]⟩]) (by simp [results, Try.results14, go_sem]) rfl ⟨rfl, (Below.refl _ _).alloc (Nat.le_refl _) _⟩
end Old
end Go.Proofs.Ytcmhobbpeaeebaa
