import Derived.Test.YtcmhobbpeaeebaaGAL
import Derived.Test.YtcmhobbpeaeebaaGBA
namespace Go.Proofs.Ytcmhobbpeaeebaa
namespace New
open Go.RowKit
set_option linter.unusedVariables false
set_option maxRecDepth 100000

theorem sDec_fit {bs : List Int} (h : AllB bs) : PgFit (sDec bs).1 ∧ (∀ x ∈ (sDec bs).1.ks, kidFit x) ∧ (∀ x ∈ (sDec bs).1.es, entFit x) := by
  have hk : I64 (bs.getD 4 0) := by have := h.getD 4; unfold I64; omega
  obtain ⟨h1, h2, h3⟩ := sRead_fit (L := (bs.drop 8).take 112) ((h.drop 8).take 112) (bs.getD 4 0) hk (bs.getD 5 0).toNat
  exact ⟨⟨h1.kind, AllB.num (h.take 4) (by rw [List.length_take]; omega) false, h1.id, h1.root, h1.count, h1.next, h1.data⟩, h2, h3⟩
theorem code_count {p : Pg} {bs : List Int} (h : newCodeOf p = bs) (hne : bs ≠ []) : p.ks.length + p.es.length ≤ 255 := by
  unfold newCodeOf at h
  split at h
  · rename_i h1; exact body_count h1.2
  · exact absurd h.symm hne
theorem toB_cmp {x y : List Int} (hx : AllB x) (hy : AllB y) : ((toB x).toList == (toB y).toList) = decide (x = y) := by
  have h3 := toB_inj hx hy
  have h4 : ((toB x).toList == (toB y).toList) = decide (toB x = toB y) := by
    rw [ByteArray.toList_eq, ByteArray.toList_eq, Bool.eq_iff_iff]
    simp only [beq_iff_eq, decide_eq_true_eq]
    constructor
    · intro h; exact ByteArray.ext (Array.ext' h)
    · intro h; rw [h]
  rw [h4]
  simp [h3]
set_option maxHeartbeats 12800000 in
theorem specDecode_any (g o c : Nat) (bs : List Int) (w : World) (A B : Nat) (hB : B ≤ w.heap.size) (hb : BytesAt w A B (some ⟨g, o, none⟩) 128 c bs) :
    Calls Try.prog 26 #[.slice (some ⟨g, o, none⟩) 128 c] w fun e w' => ∃ vk ve, e = .returned (resVal ((sDec bs).2 && decide (newCodeOf (sDec bs).1 = bs)) (sDec bs).1 vk ve) ∧ w'.ownsRow w.heap.size 100 2 vk (sDec bs).1.ks.length (rowsOf kidCells (sDec bs).1.ks) ∧ w'.ownsRow w.heap.size 102 4 ve (sDec bs).1.es.length (rowsOf entCells (sDec bs).1.es) ∧ (vk = .slice none 0 0 ∨ ve = .slice none 0 0) ∧ Below w.heap.size w w' := by
  have hcc : 128 ≤ c := hb.2.1
  have hcm := hb.2.2.1
  unfold maxLen at hcm
  have ib8 : (8 : Int) ≤ (c : Int) := by omega
  have ib120 : (120 : Int) ≤ (c : Int) := by omega
  have nb120 : ¬ (c : Int) < 120 := by omega
  have ec8 : ¬ c = 8 := by omega
  obtain ⟨g', o', eg, hg, hcell⟩ := hb.2.2.2.2.1 (by omega)
  obtain ⟨rfl, rfl⟩ : g' = g ∧ o' = o := by injection eg with e1; injection e1 with e2 e3; exact ⟨e2.symm, e3.symm⟩
  have hsub := bytesAt_sub hb 8 112 (by omega) (by omega)
  have q4 := hcell 4 (by omega)
  have q5 := hcell 5 (by omega)
  have hx4 := getD_byteB hb.2.2.2.1 4
  have hx5 := getD_byteB hb.2.2.2.1 5
  obtain ⟨n, hn⟩ : ∃ n : Nat, bs.getD 5 0 = (n : Int) := ⟨(bs.getD 5 0).toNat, by omega⟩
  rw [hn] at q5
  have hn255 : n ≤ 255 := by omega
  generalize hkd : bs.getD 4 0 = kd at q4 hx4
  have hL : ((bs.drop 8).take 112).length = 112 := hsub.1
  have HB : Hid (∀ X, Below w.heap.size w X → BytesAt X A B (some ⟨g', o' + 8, none⟩) ((bs.drop 8).take 112).length (c - 8) ((bs.drop 8).take 112)) := fun X hX => by rw [hL]; exact hsub.below (hX.mono hB)
  have HRB : Hid (∀ X, Below w.heap.size w X → Calls Try.prog 49 #[.int .i64 kd, .int .i64 n, .slice (some ⟨g', o' + 8, none⟩) 112 (c - 8), .agg #[.bool false, .int .i64 4, .bool false]] X fun e w' => ∃ v, e = .returned (.tuple #[v, .bool (sRead ((bs.drop 8).take 112) kd n).2]) ∧ PgVal w' X.heap.size (sRead ((bs.drop 8).take 112) kd n).1 v ∧ Below X.heap.size X w') := fun X hX => by
    have := l2ReadBody_any kd ((bs.drop 8).take 112) n hn255 (some ⟨g', o' + 8, none⟩) (c - 8) X A B (HB.out X hX) (Nat.le_trans hB hX.size)
    rw [hL] at this
    exact this
  have HC : Hid (∀ X, Below w.heap.size w X → X.cell? ⟨g', o' + 4, none⟩ = some (.int .u8 kd) ∧ X.cell? ⟨g', o' + 5, none⟩ = some (.int .u8 n)) := fun X hX => ⟨(hX.cell (p := ⟨g', o' + 4, none⟩) (by show g' < w.heap.size; omega)).trans q4, (hX.cell (p := ⟨g', o' + 5, none⟩) (by show g' < w.heap.size; omega)).trans q5⟩
  have HSD : Hid (sDec bs = ({ (sRead ((bs.drop 8).take 112) kd n).1 with tx := numOf false (bs.take 4) }, (sRead ((bs.drop 8).take 112) kd n).2)) := by rw [sDec, hkd, hn, Int.toNat_natCast]; exact rfl
  have hbb := hb.2.2.2.1
  have hfit := sDec_fit (bs := bs) hbb
  rw [HSD.out] at hfit
  have hsub4 : BytesAt w A B (some ⟨g', o', none⟩) 4 c (bs.take 4) := by simpa using bytesAt_sub hb 0 4 (by omega) (by omega)
  generalize sRead ((bs.drop 8).take 112) kd n = S at HRB HSD hfit
  obtain ⟨q, okb⟩ := S
  generalize hTX : numOf false (bs.take 4) = tx at HSD hfit
  have HTX : Hid (numOf false (bs.take 4) = tx) := hTX
  clear hTX
  have hw5 : IntKind.i64.wrap (n : Int) = (n : Int) := by rw [IntKind.wrap_i64]; omega
  have hw4 : IntKind.i64.wrap kd = kd := by rw [IntKind.wrap_i64]; omega
  clear hn hkd hcell hsub
  go_enter Try.func26, Try.ntmps26
  go_wp2_with fail
  have hb0 : Below w.heap.size w (w.alloc (.cells #[.bool false, .int .i64 0, .int .i64 0, .int .i64 0, .int .i64 0, .int .i64 0, .slice none 0 0, .slice none 0 0, .int .i64 0, .string ⟨#[]⟩] 32)) := (Below.refl _ _).alloc (Nat.le_refl _) _
  have HR0 := heap_alloc_new w (.cells #[.bool false, .int .i64 0, .int .i64 0, .int .i64 0, .int .i64 0, .int .i64 0, .slice none 0 0, .slice none 0 0, .int .i64 0, .string ⟨#[]⟩] 32)
  generalize w.alloc (.cells #[.bool false, .int .i64 0, .int .i64 0, .int .i64 0, .int .i64 0, .int .i64 0, .slice none 0 0, .slice none 0 0, .int .i64 0, .string ⟨#[]⟩] 32) = W0 at hb0 HR0 ⊢
  obtain ⟨u4, u5⟩ := HC.out W0 hb0
  have sW0 : w.heap.size < W0.heap.size := (Array.getElem?_eq_some_iff.1 HR0).1
  have gW0 : g' ≠ W0.heap.size := by have := hb0.size; omega
  have gW0' := gW0.symm
  have gw0 : g' ≠ w.heap.size := by omega
  go_region_held3 (fun w' => w'.cell? ⟨g', o' + 4, none⟩ = some (.int .u8 kd) ∧ w'.cell? ⟨g', o' + 5, none⟩ = some (.int .u8 n)) (go_keep)
    (first
      | (have _ := mk1; go_at_call 49; refine (HRB.out (w1.alloc (.cells #[.int .i64 0, .int .i64 0, .int .i64 0, .int .i64 0, .int .i64 0, .slice none 0 0, .slice none 0 0, .int .i64 0, .string ⟨#[]⟩] 28)) (hw1.alloc hw1.size _)).mono ?_; rintro e w2 ⟨v2, rfl, ⟨vk, ve, rfl, hOk, hOe, hor⟩, hb2⟩; obtain ⟨ka, kc, rfl⟩ := own_shape hOk; obtain ⟨ea, ec, rfl⟩ := own_shape hOe; have hw2 : Below w.heap.size w w2 := (hw1.alloc hw1.size _).trans (hb2.mono (hw1.alloc hw1.size _).size); have hw2' : Below W0.heap.size W0 w2 := (hz1.alloc hz1.size _).trans (hb2.mono (hz1.alloc hz1.size _).size); have hP2 := eb_call (heap_alloc_new w1 (.cells #[.int .i64 0, .int .i64 0, .int .i64 0, .int .i64 0, .int .i64 0, .slice none 0 0, .slice none 0 0, .int .i64 0, .string ⟨#[]⟩] 28)) hb2; have ff := box_frozen hP2; obtain ⟨s5, s6, s0, s2, s3, s4, s7, s8, s1⟩ := box_slice hP2; obtain ⟨u4', u5'⟩ := HC.out w2 hw2; have gw2 : g' ≠ w2.heap.size := (by have := hw2.size; omega); have gw2' := gw2.symm)
      | (have _ := hP1; go_at_call 49; refine (HRB.out w1 hw1).mono ?_; rintro e w2 ⟨v2, rfl, ⟨vk, ve, rfl, hOk, hOe, hor⟩, hb2⟩; obtain ⟨ka, kc, rfl⟩ := own_shape hOk; obtain ⟨ea, ec, rfl⟩ := own_shape hOe; have hw2 : Below w.heap.size w w2 := hw1.trans (hb2.mono hw1.size); have hw2' : Below W0.heap.size W0 w2 := hz1.trans (hb2.mono hz1.size); have hP2 := eb_call hP1 hb2; have ff := box_frozen hP2; obtain ⟨s5, s6, s0, s2, s3, s4, s7, s8, s1⟩ := box_slice hP2; obtain ⟨u4', u5'⟩ := HC.out w2 hw2; have gw2 : g' ≠ w2.heap.size := (by have := hw2.size; omega); have gw2' := gw2.symm)
      | (have _ := mk1; go_at_call 49; refine (HRB.out w1 hw1).mono ?_; rintro e w2 ⟨v2, rfl, ⟨vk, ve, rfl, hOk, hOe, hor⟩, hb2⟩; obtain ⟨ka, kc, rfl⟩ := own_shape hOk; obtain ⟨ea, ec, rfl⟩ := own_shape hOe; have hw2 : Below w.heap.size w w2 := hw1.trans (hb2.mono hw1.size); have hw2' : Below W0.heap.size W0 w2 := hz1.trans (hb2.mono hz1.size); obtain ⟨u4', u5'⟩ := HC.out w2 hw2; have gw2 : g' ≠ w2.heap.size := (by have := hw2.size; omega); have gw2' := gw2.symm)
      | (go_at_call 44; refine (l2New_any (W0.drew.alloc (.cells #[.int .i64 0, .int .i64 0, .int .i64 0, .int .i64 0, .int .i64 0, .slice none 0 0, .slice none 0 0, .int .i64 0, .string ⟨#[]⟩] 28))).mono ?_; rintro e w1 ⟨rfl, hb1⟩; have hw1 : Below w.heap.size w w1 := (hb0.drew.alloc hb0.size _).trans (hb1.mono (hb0.drew.alloc hb0.size _).size); have hz1 : Below W0.heap.size W0 w1 := ((Below.refl W0.heap.size W0).drew.alloc (Nat.le_refl _) _).trans (hb1.mono ((Below.refl W0.heap.size W0).drew.alloc (Nat.le_refl _) _).size); have hs1 := hz1.size; have hP1 : w1.heap[W0.heap.size]? = some (.cells #[.int .i64 0, .int .i64 0, .int .i64 0, .int .i64 0, .int .i64 0, .slice none 0 0, .slice none 0 0, .int .i64 0, .string ⟨#[]⟩] 28) := eb_call (heap_alloc_new W0.drew (.cells #[.int .i64 0, .int .i64 0, .int .i64 0, .int .i64 0, .int .i64 0, .slice none 0 0, .slice none 0 0, .int .i64 0, .string ⟨#[]⟩] 28)) hb1; obtain ⟨u4', u5'⟩ := HC.out w1 hw1; have gw1 : g' ≠ w1.heap.size := (by have := hw1.size; omega); have gw1' := gw1.symm; have mk1 : True := trivial)
      | (go_at_call 44; refine (l2New_any W0.drew).mono ?_; rintro e w1 ⟨rfl, hb1⟩; have hw1 : Below w.heap.size w w1 := hb0.drew.trans (hb1.mono hb0.size); have hz1 : Below W0.heap.size W0 w1 := (Below.refl W0.heap.size W0).drew.trans hb1; have hs1 := hz1.size; obtain ⟨u4', u5'⟩ := HC.out w1 hw1; have gw1 : g' ≠ w1.heap.size := (by have := hw1.size; omega); have gw1' := gw1.symm; have mk1 : True := trivial))
  all_goals
    have HR2 := (show w2.heap[w.heap.size]? = _ from (hw2'.block w.heap.size sW0).trans HR0)
    have s01 := hs1
    have s12 := hb2.size
    have sal : ∀ o : Obj, (w1.alloc o).heap.size = w1.heap.size + 1 := fun o => by simp
    try simp only [sal] at s12
    try simp only [sal] at hOk
    try simp only [sal] at hOe
  all_goals
    first
    | (have hG_w1 : w2.heap[w1.heap.size]? = some _ := hP2
       have hX := put9_box hP2 (.int .i64 q.kind) (.int .i64 q.tx) (.int .i64 q.id) (.int .i64 q.root) (.int .i64 q.count) (.slice ka q.ks.length kc) (.slice ea q.es.length ec) (.int .i64 q.next) (.string q.data)
       have hF := put9_fr w2 w1.heap.size (.int .i64 q.kind) (.int .i64 q.tx) (.int .i64 q.id) (.int .i64 q.root) (.int .i64 q.count) (.slice ka q.ks.length kc) (.slice ea q.es.length ec) (.int .i64 q.next) (.string q.data)
       change Exit.then _ _ _ _ (put9 w2 w1.heap.size (.int .i64 q.kind) (.int .i64 q.tx) (.int .i64 q.id) (.int .i64 q.root) (.int .i64 q.count) (.slice ka q.ks.length kc) (.slice ea q.es.length ec) (.int .i64 q.next) (.string q.data))
       generalize put9 w2 w1.heap.size (.int .i64 q.kind) (.int .i64 q.tx) (.int .i64 q.id) (.int .i64 q.root) (.int .i64 q.count) (.slice ka q.ks.length kc) (.slice ea q.es.length ec) (.int .i64 q.next) (.string q.data) = X at hX hF ⊢
       have hPw : w.heap.size < w1.heap.size := (by omega)
       have hnk : ∀ g, (Value.slice ka q.ks.length kc).ownBlock = some g → g ≠ w1.heap.size := (fun g e => by have := (hOk.lt g e).1; omega)
       have hne : ∀ g, (Value.slice ea q.es.length ec).ownBlock = some g → g ≠ w1.heap.size := (fun g e => by have := (hOe.lt g e).1; omega)
       have hnr1 : ∀ g, (Value.slice ka q.ks.length kc).ownBlock = some g → g ≠ w.heap.size := (fun g e => by have := (hOk.lt g e).1; omega)
       have hnr2 : ∀ g, (Value.slice ea q.es.length ec).ownBlock = some g → g ≠ w.heap.size := (fun g e => by have := (hOe.lt g e).1; omega)
       have HRX := (hF.block w.heap.size (by omega) (by omega)).trans HR2
       have hbX := hw2.trans (hF.below hw2.size (fun g e => by omega))
       have hOkX := owns_base (base' := w.heap.size) (owns_fr hOk hF hnk) (by omega)
       have hOeX := owns_base (base' := w.heap.size) (owns_fr hOe hF hne) (by omega)
       generalize w1.heap.size = P at hX hPw hnk hne ⊢)
    | (have hG_W0 : w2.heap[W0.heap.size]? = some _ := hP2
       have s1x : W0.heap.size < w1.heap.size := (Array.getElem?_eq_some_iff.1 hP1).1
       have hX := put9_box hP2 (.int .i64 q.kind) (.int .i64 q.tx) (.int .i64 q.id) (.int .i64 q.root) (.int .i64 q.count) (.slice ka q.ks.length kc) (.slice ea q.es.length ec) (.int .i64 q.next) (.string q.data)
       have hF := put9_fr w2 W0.heap.size (.int .i64 q.kind) (.int .i64 q.tx) (.int .i64 q.id) (.int .i64 q.root) (.int .i64 q.count) (.slice ka q.ks.length kc) (.slice ea q.es.length ec) (.int .i64 q.next) (.string q.data)
       change Exit.then _ _ _ _ (put9 w2 W0.heap.size (.int .i64 q.kind) (.int .i64 q.tx) (.int .i64 q.id) (.int .i64 q.root) (.int .i64 q.count) (.slice ka q.ks.length kc) (.slice ea q.es.length ec) (.int .i64 q.next) (.string q.data))
       generalize put9 w2 W0.heap.size (.int .i64 q.kind) (.int .i64 q.tx) (.int .i64 q.id) (.int .i64 q.root) (.int .i64 q.count) (.slice ka q.ks.length kc) (.slice ea q.es.length ec) (.int .i64 q.next) (.string q.data) = X at hX hF ⊢
       have hPw : w.heap.size < W0.heap.size := (by omega)
       have hnk : ∀ g, (Value.slice ka q.ks.length kc).ownBlock = some g → g ≠ W0.heap.size := (fun g e => by have := (hOk.lt g e).1; omega)
       have hne : ∀ g, (Value.slice ea q.es.length ec).ownBlock = some g → g ≠ W0.heap.size := (fun g e => by have := (hOe.lt g e).1; omega)
       have hnr1 : ∀ g, (Value.slice ka q.ks.length kc).ownBlock = some g → g ≠ w.heap.size := (fun g e => by have := (hOk.lt g e).1; omega)
       have hnr2 : ∀ g, (Value.slice ea q.es.length ec).ownBlock = some g → g ≠ w.heap.size := (fun g e => by have := (hOe.lt g e).1; omega)
       have HRX := (hF.block w.heap.size (by omega) (by omega)).trans HR2
       have hbX := hw2.trans (hF.below hw2.size (fun g e => by omega))
       have hOkX := owns_base (base' := w.heap.size) (owns_fr hOk hF hnk) (by omega)
       have hOeX := owns_base (base' := w.heap.size) (owns_fr hOe hF hne) (by omega)
       generalize W0.heap.size = P at hX hPw hnk hne ⊢)
    | (have _ : w2.heap.size = w2.heap.size := rfl
       have hX := heap_alloc_new w2 (.cells #[.int .i64 q.kind, .int .i64 q.tx, .int .i64 q.id, .int .i64 q.root, .int .i64 q.count, .slice ka q.ks.length kc, .slice ea q.es.length ec, .int .i64 q.next, .string q.data] 28)
       have hF : Fr (fun x => x = w2.heap.size) w2 (w2.alloc (.cells #[.int .i64 q.kind, .int .i64 q.tx, .int .i64 q.id, .int .i64 q.root, .int .i64 q.count, .slice ka q.ks.length kc, .slice ea q.es.length ec, .int .i64 q.next, .string q.data] 28)) := Fr.of_below ((Below.refl _ _).alloc (Nat.le_refl _) _)
       generalize w2.alloc (.cells #[.int .i64 q.kind, .int .i64 q.tx, .int .i64 q.id, .int .i64 q.root, .int .i64 q.count, .slice ka q.ks.length kc, .slice ea q.es.length ec, .int .i64 q.next, .string q.data] 28) = X at hX hF ⊢
       have hPw : w.heap.size < w2.heap.size := (by omega)
       have hnk : ∀ g, (Value.slice ka q.ks.length kc).ownBlock = some g → g ≠ w2.heap.size := (fun g e => by have := (hOk.lt g e).2; omega)
       have hne : ∀ g, (Value.slice ea q.es.length ec).ownBlock = some g → g ≠ w2.heap.size := (fun g e => by have := (hOe.lt g e).2; omega)
       have hnr1 : ∀ g, (Value.slice ka q.ks.length kc).ownBlock = some g → g ≠ w.heap.size := (fun g e => by have := (hOk.lt g e).1; omega)
       have hnr2 : ∀ g, (Value.slice ea q.es.length ec).ownBlock = some g → g ≠ w.heap.size := (fun g e => by have := (hOe.lt g e).1; omega)
       have HRX := (hF.block w.heap.size hPw (by omega)).trans HR2
       have hbX := hw2.trans (hF.below hw2.size (fun g e => by omega))
       have hOkX := owns_base (base' := w.heap.size) (owns_fr hOk hF hnk) (by omega)
       have hOeX := owns_base (base' := w.heap.size) (owns_fr hOe hF hne) (by omega)
       generalize w2.heap.size = P at hX hPw hnk hne ⊢)
  all_goals
    obtain ⟨hfp, hfk, hfe⟩ := hfit
    have hs4X := hsub4.below (hbX.mono hB)
    have hbyX := hb.below (hbX.mono hB)
    have hPX := (Array.getElem?_eq_some_iff.1 hX).1
    obtain ⟨s5, s6, s0, s2, s3, s4, s7, s8, s1⟩ := box_slice hX
    have ff := box_frozen hX
    clear HRB HC HB hb0 HR0 hb1 hw1 hb2 hw2 hw2' hF HR2 hz1 hOk hOe q4 q5 u4 u5 hsub4
    go_wp2_with fail
    refine (l2Get_low (some ⟨g', o', none⟩) 4 c (by omega) (bs.take 4) X A B hs4X).mono ?_
    rintro e X' ⟨rfl, rfl⟩
    rw [HTX.out]
    go_wp2_with fail
    have hY : (X'.setCell ⟨P, 1, none⟩ (.int .i64 tx)).heap[P]? = some (.cells #[.int .i64 q.kind, .int .i64 tx, .int .i64 q.id, .int .i64 q.root, .int .i64 q.count, .slice ka q.ks.length kc, .slice ea q.es.length ec, .int .i64 q.next, .string q.data] 28) := by simp [World.setCell, Array.getElem?_modify, hX]
    have hFY := set_fr X' P 1 (.int .i64 tx)
    generalize X'.setCell ⟨P, 1, none⟩ (.int .i64 tx) = Y at hY hFY ⊢
    have HRY := (hFY.block w.heap.size (by omega) (by omega)).trans HRX
    have hbY := hbX.trans (hFY.below hbX.size (fun g e => by omega))
    have hOkY := owns_fr hOkX hFY (fun g e e' => hnk g e e')
    have hOeY := owns_fr hOeX hFY (fun g e e' => hne g e e')
    have hbyY := hb.below (hbY.mono hB)
    have hPY := (Array.getElem?_eq_some_iff.1 hY).1
    have scY := str_conv (w := Y.drew) hbyY
    clear hX HRX hbX hOkX hOeX hs4X hbyX hPX s5 s6 s0 s2 s3 s4 s7 s8 s1 ff hFY
    obtain ⟨s5, s6, s0, s2, s3, s4, s7, s8, s1⟩ := box_slice hY
    obtain ⟨_, _, e2, hKY⟩ := RowsAt.of_owns kc2 hOkY rfl (getD_fit hfk dK)
    cases e2
    obtain ⟨_, _, e2, hEY⟩ := RowsAt.of_owns ec4 hOeY rfl (getD_fit hfe dE)
    cases e2
    have HEN : Hid (Calls Try.prog 9 #[.agg #[.int .i64 q.kind, .int .i64 tx, .int .i64 q.id, .int .i64 q.root, .int .i64 q.count, .slice ka q.ks.length kc, .slice ea q.es.length ec, .int .i64 q.next, .string q.data]] Y.drew fun e w' => ∃ v, e = .returned v ∧ w'.ownsRow Y.drew.heap.size 5 1 v (newCodeOf { q with tx := tx }).length (u8s (newCodeOf { q with tx := tx })) ∧ Below Y.drew.heap.size Y.drew w') := specEncodePage_any { q with tx := tx } hfp hfp.tx ka kc ea ec Y.drew w.heap.size Y.heap.size (Nat.le_refl _) hKY hEY
    have hcb := codeN_byte { q with tx := tx }
    have HBE : Hid (∀ X, Below Y.drew.heap.size Y.drew X → BytesAt X A B (some ⟨g', o', none⟩) 128 c bs) := fun X hX => hbyY.below (w := Y.drew) (hX.mono (Nat.le_trans hB hbY.size))
    clear hKY hEY
    generalize hcode : newCodeOf { q with tx := tx } = code at HEN hcb
    have HCO : Hid (newCodeOf { q with tx := tx } = code) := hcode
    clear hcode
    have hrk : ∀ g, (Value.slice ka q.ks.length kc).ownBlock = some g → g ≠ w.heap.size := hnr1
    have hre : ∀ g, (Value.slice ea q.es.length ec).ownBlock = some g → g ≠ w.heap.size := hnr2
    cases okb
    · go_quiet (fail)
      all_goals
        have HRZ : (Y.drewN nq).heap[w.heap.size]? = _ := HRY
        have hbZ : Below w.heap.size w (Y.drewN nq) := hbY.trans ⟨rfl, rfl, rfl, Nat.le_refl _, fun _ _ => rfl⟩
        have hOkZ : (Y.drewN nq).ownsRow _ _ _ _ _ _ := hOkY
        have hOeZ : (Y.drewN nq).ownsRow _ _ _ _ _ _ := hOeY
        generalize Y.drewN nq = Z at HRZ hbZ hOkZ hOeZ ⊢
        clear s0 s1 s2 s3 s4 s5 s6 s7 s8 scY hY HRY hbY hOkY hOeY HEN HBE
        have HB10 := put10_box HRZ (.bool false) (.int .i64 0) (.int .i64 0) (.int .i64 0) (.int .i64 0) (.int .i64 0) (.slice none 0 0) (.slice none 0 0) (.int .i64 0) (.string ⟨#[]⟩)
        have hb9 : Below w.heap.size w (put10 Z w.heap.size (.bool false) (.int .i64 0) (.int .i64 0) (.int .i64 0) (.int .i64 0) (.int .i64 0) (.slice none 0 0) (.slice none 0 0) (.int .i64 0) (.string ⟨#[]⟩)) := hbZ.trans ((put10_fr Z w.heap.size (.bool false) (.int .i64 0) (.int .i64 0) (.int .i64 0) (.int .i64 0) (.int .i64 0) (.slice none 0 0) (.slice none 0 0) (.int .i64 0) (.string ⟨#[]⟩)).below hbZ.size (fun g e => by omega))
        have f8 := box_frozenq HRZ
        obtain ⟨d0, d1, d2, d3, d4, d5, d6, d7, d8, d9⟩ := box_ten HRZ
        have hOk9 := owns_fr hOkZ (put10_fr Z w.heap.size (.bool false) (.int .i64 0) (.int .i64 0) (.int .i64 0) (.int .i64 0) (.int .i64 0) (.slice none 0 0) (.slice none 0 0) (.int .i64 0) (.string ⟨#[]⟩)) (fun g1 e e' => hrk g1 e e')
        have hOe9 := owns_fr hOeZ (put10_fr Z w.heap.size (.bool false) (.int .i64 0) (.int .i64 0) (.int .i64 0) (.int .i64 0) (.int .i64 0) (.slice none 0 0) (.slice none 0 0) (.int .i64 0) (.string ⟨#[]⟩)) (fun g1 e e' => hre g1 e e')
        go_wp2
        show bodyPost _ _ _ _ _ (put10 Z w.heap.size (.bool false) (.int .i64 0) (.int .i64 0) (.int .i64 0) (.int .i64 0) (.int .i64 0) (.slice none 0 0) (.slice none 0 0) (.int .i64 0) (.string ⟨#[]⟩))
        clear d0 d1 d2 d3 d4 d5 d6 d7 d8 d9
        obtain ⟨d0, d1, d2, d3, d4, d5, d6, d7, d8, d9⟩ := box_ten HB10
        refine bodyPost_ret (v := .agg #[.bool false, .int .i64 0, .int .i64 0, .int .i64 0, .int .i64 0, .int .i64 0, .slice none 0 0, .slice none 0 0, .int .i64 0, .string ⟨#[]⟩]) (by simp [results, Try.results26, go_sem, d0, d1, d2, d3, d4, d5, d6, d7, d8, d9]) rfl ?_
        rw [HSD.out]
        exact ⟨.slice ka q.ks.length kc, .slice ea q.es.length ec, rfl, hOk9, hOe9, hor, hb9⟩
    · refine wp_region_noPanic ?_
      refine wp_region_held_drew (S := (fun w' => w'.cell? ⟨P, 0, none⟩ = some (.int .i64 q.kind) ∧ w'.cell? ⟨P, 1, none⟩ = some (.int .i64 tx) ∧ w'.cell? ⟨P, 2, none⟩ = some (.int .i64 q.id) ∧ w'.cell? ⟨P, 3, none⟩ = some (.int .i64 q.root) ∧ w'.cell? ⟨P, 4, none⟩ = some (.int .i64 q.count) ∧ w'.cell? ⟨P, 5, none⟩ = some (.slice ka q.ks.length kc) ∧ w'.cell? ⟨P, 6, none⟩ = some (.slice ea q.es.length ec) ∧ w'.cell? ⟨P, 7, none⟩ = some (.int .i64 q.next) ∧ w'.cell? ⟨P, 8, none⟩ = some (.string q.data) ∧ (convert 22 9 (.slice (some ⟨g', o', none⟩) 128 c)).run Try.prog w' = .ok (.string (toB bs)) w')) (by kernel_rfl) ?_ (fun hHeld => ?_)
      · exact ⟨s0, s1, s2, s3, s4, s5, s6, s7, s8, scY⟩
      refine wpAnyH_take (i := 0) (oi := { dst := some 28, op := .move (.tmp 4), type := 4, pos := "l2_page.go:240", after := #[], guard := none }) (v := ?_) rfl (by kernel_rfl) (by kernel_rfl) (by kernel_rfl) (fun _ _ _ h => h) (Or.inl ⟨by rfl, ?_⟩) (by assumption) ?_
      rotate_left 1
      · intro w hSw; (try dsimp only at hSw); go_simp; try (with_reducible rfl)
      try simp only [Act.put, List.setIfInBounds_toArray, List.set_cons_zero, List.set_cons_succ]
      refine wpAnyH_take (i := 1) (oi := { dst := some 29, op := .unOp .not 4 (.tmp 28), type := 4, pos := "l2_page.go:240", after := #[{ on := 0, ground := .data }], guard := none }) (v := ?_) rfl (by kernel_rfl) (by kernel_rfl) (by kernel_rfl) (fun _ _ _ h => h) (Or.inl ⟨by rfl, ?_⟩) (by assumption) ?_
      rotate_left 1
      · intro w hSw; (try dsimp only at hSw); go_simp; try (with_reducible rfl)
      try simp only [Act.put, List.setIfInBounds_toArray, List.set_cons_zero, List.set_cons_succ]
      refine wpAnyH_take (i := 2) (oi := { dst := some 30, op := .move (.tmp 29), type := 4, pos := "l2_page.go:240", after := #[{ on := 1, ground := .data }], guard := none }) (v := ?_) rfl (by kernel_rfl) (by kernel_rfl) (by kernel_rfl) (fun _ _ _ h => h) (Or.inl ⟨by rfl, ?_⟩) (by assumption) ?_
      rotate_left 1
      · intro w hSw; (try dsimp only at hSw); go_simp; try (with_reducible rfl)
      try simp only [Act.put, List.setIfInBounds_toArray, List.set_cons_zero, List.set_cons_succ]
      refine wpAnyH_take (i := 6) (oi := { dst := some 34, op := .move (.tmp 0), type := 22, pos := "l2_page.go:240", after := #[{ on := 2, ground := .guard }], guard := some (2, false) }) (v := ?_) rfl (by kernel_rfl) (by kernel_rfl) (by kernel_rfl) (fun _ _ _ h => h) (Or.inl ⟨by rfl, ?_⟩) (by assumption) ?_
      rotate_left 1
      · intro w hSw; (try dsimp only at hSw); go_simp; try (with_reducible rfl)
      try simp only [Act.put, List.setIfInBounds_toArray, List.set_cons_zero, List.set_cons_succ]
      refine wpAnyH_take (i := 7) (oi := { dst := some 35, op := .convert 22 9 (.tmp 34), type := 9, pos := "l2_page.go:240", after := #[{ on := 6, ground := .data }, { on := 2, ground := .guard }], guard := some (2, false) }) (v := ?_) rfl (by kernel_rfl) (by kernel_rfl) (by kernel_rfl) (fun _ _ _ h => h) (Or.inl ⟨by rfl, ?_⟩) (by assumption) ?_
      rotate_left 1
      · intro w hSw; (try dsimp only at hSw); go_simp; try (with_reducible rfl)
      try simp only [Act.put, List.setIfInBounds_toArray, List.set_cons_zero, List.set_cons_succ]
      refine wpAnyH_take (i := 3) (oi := { dst := some 31, op := .load 28 (.tmp 3), type := 28, pos := "l2_page.go:240", after := #[{ on := 2, ground := .guard }], guard := some (2, false) }) (v := ?_) rfl (by kernel_rfl) (by kernel_rfl) (by kernel_rfl) (fun _ _ _ h => h) (Or.inl ⟨by rfl, ?_⟩) (by assumption) ?_
      rotate_left 1
      · intro w hSw; (try dsimp only at hSw); go_simp; try (with_reducible rfl)
      try simp only [Act.put, List.setIfInBounds_toArray, List.set_cons_zero, List.set_cons_succ]
      refine wpAnyH_ready (rs := [4]) (by kernel_rfl) (by simp) ?_
      refine AllReadyH.cons (o := { dst := some 32, op := .call { callee := .value (.func 9), args := #[.tmp 31], argTypes := #[28] }, type := 22, pos := "l2_page.go:240", after := #[{ on := 3, ground := .data }, { on := 2, ground := .chain }, { on := 2, ground := .guard }], guard := some (2, false) }) rfl (fun K hK => ?_) AllReadyH.nil
      go_simp
      refine HEN.out.mono ?_; rintro e w6 ⟨v6, rfl, hO6, hb6⟩; obtain ⟨a6, c6, rfl⟩ := own_shape hO6; have hY6 := eb_call (w' := Y.drew) hY hb6; obtain ⟨t5, t6, t0, t2, t3, t4, t7, t8, t1⟩ := box_slice hY6; have sc6 := str_conv (HBE.out w6 hb6); have scR := str_conv (bytesAt_row hO6 hcb)
      go_wp2_with fail
      refine hK.out _ _ ⟨t0, t1, t2, t3, t4, t5, t6, t7, t8, sc6⟩ (fun hHeld => ?_)
      clear hK K
      try simp only [Act.put, List.setIfInBounds_toArray, List.set_cons_zero, List.set_cons_succ]
      refine wpAnyH_ready (rs := [5]) (by kernel_rfl) (by simp) ?_
      refine AllReadyH.cons (o := { dst := some 33, op := .convert 22 9 (.tmp 32), type := 9, pos := "l2_page.go:240", after := #[{ on := 4, ground := .data }, { on := 2, ground := .guard }], guard := some (2, false) }) rfl (fun K hK => ?_) AllReadyH.nil
      go_simp
      refine hK.out _ _ ⟨t0, t1, t2, t3, t4, t5, t6, t7, t8, sc6⟩ (fun hHeld => ?_)
      clear hK K
      try simp only [Act.put, List.setIfInBounds_toArray, List.set_cons_zero, List.set_cons_succ]
      refine wpAnyH_take (i := 8) (oi := { dst := some 36, op := .binOp .neq 9 (.tmp 33) (.tmp 35) 9, type := 4, pos := "l2_page.go:240", after := #[{ on := 5, ground := .data }, { on := 7, ground := .data }, { on := 2, ground := .guard }], guard := some (2, false) }) (v := ?_) rfl (by kernel_rfl) (by kernel_rfl) (by kernel_rfl) (fun _ _ _ h => h) (Or.inl ⟨by rfl, ?_⟩) (by assumption) ?_
      rotate_left 1
      · intro w hSw; (try dsimp only at hSw); go_simp; try (with_reducible rfl)
      try simp only [Act.put, List.setIfInBounds_toArray, List.set_cons_zero, List.set_cons_succ]
      refine wpAnyH_take (i := 9) (oi := { dst := some 37, op := .pick (.tmp 30) (.const (.bool true)) (.tmp 36), type := 4, pos := "l2_page.go:240", after := #[{ on := 2, ground := .data }, { on := 8, ground := .data }], guard := none }) (v := ?_) rfl (by kernel_rfl) (by kernel_rfl) (by kernel_rfl) (fun _ _ _ h => h) (Or.inl ⟨by rfl, ?_⟩) (by assumption) ?_
      rotate_left 1
      · intro w hSw; (try dsimp only at hSw); go_simp; try (with_reducible rfl)
      try simp only [Act.put, List.setIfInBounds_toArray, List.set_cons_zero, List.set_cons_succ]
      refine wpAnyH_done (by kernel_rfl) ?_ _
      refine NoPanic.normal ?_
      all_goals
        have hbZ : Below w.heap.size w w6 := hbY.drew.trans (hb6.mono hbY.size)
        have HRZ := eb_call (w' := Y.drew) HRY hb6
        have hOkZ := owns_below (w := Y.drew) hOkY hb6
        have hOeZ := owns_below (w := Y.drew) hOeY hb6
        clear t0 t1 t2 t3 t4 t5 t6 t7 t8 s0 s1 s2 s3 s4 s5 s6 s7 s8 sc6 scR scY hY
        by_cases hc : code = bs
        · have hcmp : (!((toB code).toList == (toB bs).toList)) = false := by rw [toB_cmp hcb hbb, decide_eq_true hc]; rfl
          rw [hcmp]
          obtain ⟨t5, t6, t0, t2, t3, t4, t7, t8, t1⟩ := box_slice hY6
          have HB10 := put10_box HRZ (.bool true) (.int .i64 q.kind) (.int .i64 tx) (.int .i64 q.id) (.int .i64 q.root) (.int .i64 q.count) (.slice ka q.ks.length kc) (.slice ea q.es.length ec) (.int .i64 q.next) (.string q.data)
          have hb9 : Below w.heap.size w (put10 w6 w.heap.size (.bool true) (.int .i64 q.kind) (.int .i64 tx) (.int .i64 q.id) (.int .i64 q.root) (.int .i64 q.count) (.slice ka q.ks.length kc) (.slice ea q.es.length ec) (.int .i64 q.next) (.string q.data)) := hbZ.trans ((put10_fr w6 w.heap.size (.bool true) (.int .i64 q.kind) (.int .i64 tx) (.int .i64 q.id) (.int .i64 q.root) (.int .i64 q.count) (.slice ka q.ks.length kc) (.slice ea q.es.length ec) (.int .i64 q.next) (.string q.data)).below hbZ.size (fun g e => by omega))
          have f8 := box_frozenq HRZ
          obtain ⟨d0, d1, d2, d3, d4, d5, d6, d7, d8, d9⟩ := box_ten HRZ
          have hOk9 := owns_fr hOkZ (put10_fr w6 w.heap.size (.bool true) (.int .i64 q.kind) (.int .i64 tx) (.int .i64 q.id) (.int .i64 q.root) (.int .i64 q.count) (.slice ka q.ks.length kc) (.slice ea q.es.length ec) (.int .i64 q.next) (.string q.data)) (fun g1 e e' => hrk g1 e e')
          have hOe9 := owns_fr hOeZ (put10_fr w6 w.heap.size (.bool true) (.int .i64 q.kind) (.int .i64 tx) (.int .i64 q.id) (.int .i64 q.root) (.int .i64 q.count) (.slice ka q.ks.length kc) (.slice ea q.es.length ec) (.int .i64 q.next) (.string q.data)) (fun g1 e e' => hre g1 e e')
          go_wp2
          show bodyPost _ _ _ _ _ (put10 w6 w.heap.size (.bool true) (.int .i64 q.kind) (.int .i64 tx) (.int .i64 q.id) (.int .i64 q.root) (.int .i64 q.count) (.slice ka q.ks.length kc) (.slice ea q.es.length ec) (.int .i64 q.next) (.string q.data))
          clear d0 d1 d2 d3 d4 d5 d6 d7 d8 d9
          obtain ⟨d0, d1, d2, d3, d4, d5, d6, d7, d8, d9⟩ := box_ten HB10
          refine bodyPost_ret (v := .agg #[.bool true, .int .i64 q.kind, .int .i64 tx, .int .i64 q.id, .int .i64 q.root, .int .i64 q.count, .slice ka q.ks.length kc, .slice ea q.es.length ec, .int .i64 q.next, .string q.data]) (by simp [results, Try.results26, go_sem, d0, d1, d2, d3, d4, d5, d6, d7, d8, d9]) rfl ?_
          have hR : ((sDec bs).2 && decide (newCodeOf (sDec bs).1 = bs)) = true := by rw [HSD.out]; show (true && decide (newCodeOf { q with tx := tx } = bs)) = true; rw [HCO.out, decide_eq_true hc]; rfl
          rw [hR, HSD.out]
          exact ⟨.slice ka q.ks.length kc, .slice ea q.es.length ec, rfl, hOk9, hOe9, hor, hb9⟩
        · have hcmp : (!((toB code).toList == (toB bs).toList)) = true := by rw [toB_cmp hcb hbb, decide_eq_false hc]; rfl
          rw [hcmp]
          have HB10 := put10_box HRZ (.bool false) (.int .i64 0) (.int .i64 0) (.int .i64 0) (.int .i64 0) (.int .i64 0) (.slice none 0 0) (.slice none 0 0) (.int .i64 0) (.string ⟨#[]⟩)
          have hb9 : Below w.heap.size w (put10 w6 w.heap.size (.bool false) (.int .i64 0) (.int .i64 0) (.int .i64 0) (.int .i64 0) (.int .i64 0) (.slice none 0 0) (.slice none 0 0) (.int .i64 0) (.string ⟨#[]⟩)) := hbZ.trans ((put10_fr w6 w.heap.size (.bool false) (.int .i64 0) (.int .i64 0) (.int .i64 0) (.int .i64 0) (.int .i64 0) (.slice none 0 0) (.slice none 0 0) (.int .i64 0) (.string ⟨#[]⟩)).below hbZ.size (fun g e => by omega))
          have f8 := box_frozenq HRZ
          obtain ⟨d0, d1, d2, d3, d4, d5, d6, d7, d8, d9⟩ := box_ten HRZ
          have hOk9 := owns_fr hOkZ (put10_fr w6 w.heap.size (.bool false) (.int .i64 0) (.int .i64 0) (.int .i64 0) (.int .i64 0) (.int .i64 0) (.slice none 0 0) (.slice none 0 0) (.int .i64 0) (.string ⟨#[]⟩)) (fun g1 e e' => hrk g1 e e')
          have hOe9 := owns_fr hOeZ (put10_fr w6 w.heap.size (.bool false) (.int .i64 0) (.int .i64 0) (.int .i64 0) (.int .i64 0) (.int .i64 0) (.slice none 0 0) (.slice none 0 0) (.int .i64 0) (.string ⟨#[]⟩)) (fun g1 e e' => hre g1 e e')
          go_wp2
          show bodyPost _ _ _ _ _ (put10 w6 w.heap.size (.bool false) (.int .i64 0) (.int .i64 0) (.int .i64 0) (.int .i64 0) (.int .i64 0) (.slice none 0 0) (.slice none 0 0) (.int .i64 0) (.string ⟨#[]⟩))
          clear d0 d1 d2 d3 d4 d5 d6 d7 d8 d9
          obtain ⟨d0, d1, d2, d3, d4, d5, d6, d7, d8, d9⟩ := box_ten HB10
          refine bodyPost_ret (v := .agg #[.bool false, .int .i64 0, .int .i64 0, .int .i64 0, .int .i64 0, .int .i64 0, .slice none 0 0, .slice none 0 0, .int .i64 0, .string ⟨#[]⟩]) (by simp [results, Try.results26, go_sem, d0, d1, d2, d3, d4, d5, d6, d7, d8, d9]) rfl ?_
          have hR : ((sDec bs).2 && decide (newCodeOf (sDec bs).1 = bs)) = false := by rw [HSD.out]; show (true && decide (newCodeOf { q with tx := tx } = bs)) = false; rw [HCO.out, decide_eq_false hc]; rfl
          rw [hR, HSD.out]
          exact ⟨.slice ka q.ks.length kc, .slice ea q.es.length ec, rfl, hOk9, hOe9, hor, hb9⟩
theorem specDecode_short (ba : Option Addr) (n bc : Nat) (hn : n ≠ 128) (w : World) :
    Calls Try.prog 26 #[.slice ba n bc] w fun e w' => e = .returned (.agg #[.bool false, .int .i64 0, .int .i64 0, .int .i64 0, .int .i64 0, .int .i64 0, .slice none 0 0, .slice none 0 0, .int .i64 0, .string ⟨#[]⟩]) ∧ Below w.heap.size w w' := by
  have hne : ((n : Int) != 128) = true := by simp; omega
  go_enter Try.func26, Try.ntmps26
  go_wp2
  exact bodyPost_ret (v := .agg #[.bool false, .int .i64 0, .int .i64 0, .int .i64 0, .int .i64 0, .int .i64 0, .slice none 0 0, .slice none 0 0, .int .i64 0, .string ⟨#[]⟩]) (by simp [results, Try.results26, go_sem]) rfl ⟨rfl, (Below.refl _ _).alloc (Nat.le_refl _) _⟩
end New
end Go.Proofs.Ytcmhobbpeaeebaa
