import Derived.Test.YtcjjbajmjfgbcaaGBH
import Derived.Test.YtcjjbajmjfgbcaaGAJ
import Derived.Test.YtcjjbajmjfgbcaaTlr
import Derived.Test.YtcjjbajmjfgbcaaGBC
import Derived.Test.YtcjjbajmjfgbcaaTul
import Derived.Test.YtcjjbajmjfgbcaaGBG
namespace Go.Proofs.Ytcjjbajmjfgbcaa
open Go.RowKit
set_option linter.unusedVariables false
set_option linter.unusedSimpArgs false
set_option maxRecDepth 100000
theorem cat_size (a b : ByteArray) : (a ++ b).size = a.size + b.size := by simp
theorem slB_snoc (zs : List (ByteArray × ByteArray)) (k v : ByteArray) : slB (zs ++ [(k, v)]) = slB zs ++ [(k, v, 0)] := by simp [slB]
def FitZ (zs : List (ByteArray × ByteArray)) : Prop := ∀ z ∈ zs, z.1.size ≤ 1000 ∧ z.2.size ≤ 1000
theorem FitZ.snoc {zs : List (ByteArray × ByteArray)} {k v : ByteArray} (h : FitZ zs) (hk : k.size ≤ 1000) (hv : v.size ≤ 1000) : FitZ (zs ++ [(k, v)]) := by
 intro z hz
 rcases List.mem_append.1 hz with h1 | h1
 ·exact h z h1
 ·simp at h1; subst h1; exact ⟨hk, hv⟩
set_option maxHeartbeats 3200000 in
theorem l3DrawPairs_any (C A B : Nat) (w : World) (h : DCur w C A B) (n : Nat) (hn : n ≤ 4000) :
  Calls Try.prog 15 #[.pointer (some ⟨C, 0, none⟩), .int .i64 n] w fun e w' => ∃ (a : Option Addr) (c : Nat) (zs : List (ByteArray × ByteArray)), e = .returned (.slice a n c) ∧ zs.length = n ∧ FitZ zs ∧ w'.ownsRow w.heap.size 37 2 (.slice a n c) n (rowsOf prCells (slB zs)) ∧ DCur w' C A B ∧ Fr (fun g => g = C) w w' := by
 have hCw := h.lt
 obtain ⟨ip, hip, hp0, hp1, hp2⟩ := info_parts info_Pair
 have b0 : Below w.heap.size w (w.alloc (.cells #[] 37)) := (Below.refl _ _).alloc (Nat.le_refl _) _
 have o0 : (w.alloc (.cells #[] 37)).ownsRow w.heap.size 37 2 (.slice (some ⟨w.heap.size, 0, none⟩) 0 0) 0 (rowsOf prCells (slB [])) := by
  have := World.ownsRow_made w #[] (base := w.heap.size) (e := 37) (size := 2) 0 (by simp) (by unfold maxLen; omega) (by simp)
  simpa [slB, rowsOf] using this
 have hD0 := h.below b0
 have hF0 : Fr (fun g => g = C) w _ := Fr.of_below b0
 go_enter Try.func15, Try.ntmps15
 go_wp2_with fail
 go_loopw [5, 6] (fun o i wr => ∃ (j : Nat) (va : Option Addr) (vc : Nat) (zs : List (ByteArray × ByteArray)), j ≤ n ∧ i = .int .i64 j ∧ o = .slice va j vc ∧ Hid (zs.length = j ∧ FitZ zs) ∧ wr.ownsRow w.heap.size 37 2 (.slice va j vc) j (rowsOf prCells (slB zs)) ∧ DCur wr C A B ∧ Fr (fun g => g = C) w wr) (fun _ i _ => n - (intOf i).toNat)
 case atStart => exact ⟨0, _, 0, [], Nat.zero_le _, rfl, rfl, ⟨rfl, fun z hz => by cases hz⟩, o0, hD0, hF0⟩
 case round =>
  clear o0 hD0 hF0 b0 h
  obtain ⟨j, va, vc, zs, hj, rfl, rfl, HZ, hown, hD, hF⟩ := hrel
  by_cases hlt : j < n
  ·go_wp2_with fail
   refine (l2Val_any C A B wr hD).mono ?_
   rintro e w1 ⟨v, rfl, hv, hD1, hF1⟩
   have hown1 := owns_fr hown hF1 (fun g e e' => by have := (hown.lt g e).1; omega)
   have hFw1 := hF.trans hF1
   clear hown hD hF hF1
   have hs1 := hFw1.size
   have b2 : Below w1.heap.size w1 (w1.alloc (.cells #[.int .u8 (48 + (j : Int) / 60 % 60), .int .u8 (48 + (j : Int) % 60)] 5)) := (Below.refl _ _).alloc (Nat.le_refl _) _
   have sc := str_conv (bytes_new2 w1 (48 + (j : Int) / 60 % 60) (48 + (j : Int) % 60) (by omega) (by omega))
   have z2 : (w1.alloc (.cells #[.int .u8 (48 + (j : Int) / 60 % 60), .int .u8 (48 + (j : Int) % 60)] 5)).heap.size = w1.heap.size + 1 := by simp
   obtain ⟨ks, hks⟩ : ∃ ks, toB [48 + (j : Int) / 60 % 60, 48 + (j : Int) % 60] = ks := ⟨_, rfl⟩
   have hks2 : ks.size = 2 := by rw [← hks, toB_size]; rfl
   rw [hks] at sc
   clear hks
   have HKS : Hid (((⟨#[112]⟩ : ByteArray) ++ ks).size = 3) := by show _ = _; rw [cat_size, hks2]; rfl
   go_wp2_with (at_builtin; refine wpList_append_ownD _ rfl _ _ 23 rfl w.heap.size 37 ip _ 2 32 Try.underlying23 hip hp0 hp1 hp2 rfl (by decide) (.slice va j vc) j _ rfl (owns_below (owns_below hown1 b2) ((Below.refl _ _).alloc (Nat.le_refl _) (.cells #[.string ((⟨#[112]⟩ : ByteArray) ++ ks), .string v] 37))) ⟨w1.heap.size + 1, 0, none⟩ 1 1 [.string ((⟨#[112]⟩ : ByteArray) ++ ks), .string v] rfl rfl (by have := cell_two_newT (w1.alloc (.cells #[.int .u8 (48 + (j : Int) / 60 % 60), .int .u8 (48 + (j : Int) % 60)] 5)) (.string ((⟨#[112]⟩ : ByteArray) ++ ks)) (.string v) 37; rw [z2] at this; exact this) (by simp [Value.oneCell']) (by unfold maxLen; omega) (by omega) (by simp; omega) ?_; intro v' w6 h1 h2 h3)
   obtain ⟨a', c', rfl⟩ := own_shape h1
   have hB : Fr (fun g => (Value.slice va j vc).ownBlock = some g) w1 w6 := (Fr.of_below b2).trans ((Fr.of_below ((Below.refl _ _).alloc (Nat.le_refl _) _)).trans (Fr.of_grown h2 (fun g e => e)))
   have hD6 := hD1.frg hB (fun g e => by have := (hown1.lt g e).1; omega)
   have hF6 := hFw1.up2 hB (fun g e => (hown1.lt g e).1)
   have HZ6 : Hid ((zs ++ [((⟨#[112]⟩ : ByteArray) ++ ks, v)]).length = j + 1 ∧ FitZ (zs ++ [((⟨#[112]⟩ : ByteArray) ++ ks, v)])) := ⟨by rw [List.length_append, HZ.out.1]; rfl, HZ.out.2.snoc (by rw [HKS.out]; omega) (by omega)⟩
   have HO6 : Hid (w6.ownsRow w.heap.size 37 2 (.slice a' (j + 1) c') (j + 1) (rowsOf prCells (slB (zs ++ [((⟨#[112]⟩ : ByteArray) ++ ks, v)])))) := by show World.ownsRow _ _ _ _ _ _ _; rw [slB_snoc, rowsOf_append]; exact h1
   clear h1 h2 h3 hB sc hown1 b2 z2
   go_roundw
   case rel => exact ⟨j + 1, a', c', _, by omega, by go_num, rfl, HZ6, HO6.out, hD6, hF6⟩
   case measure => simp [intOf]; omega
  ·go_wp2_with fail
   obtain rfl : j = n := by omega
   go_ret
   exact ⟨va, vc, zs, rfl, HZ.out.1, HZ.out.2, hown, hD, hF⟩
theorem prs_get2 (zs : List (ByteArray × ByteArray)) (j : Nat) (h : j < zs.length) : (rowsOf prCells (slB zs))[j * 2]? = some (.string (zs.getD j dP).1) ∧ (rowsOf prCells (slB zs))[j * 2 + 1]? = some (.string (zs.getD j dP).2) := by
 have hl : j < (slB zs).length := by simp [slB]; exact h
 have e : (slB zs).getD j (ByteArray.empty, ByteArray.empty, 0) = ((zs.getD j dP).1, (zs.getD j dP).2, 0) := by simp [slB, List.getD, h]
 have h0 := rowsOf_get pr2 (ByteArray.empty, ByteArray.empty, 0) (slB zs) j 0 hl (by omega)
 have h1 := rowsOf_get pr2 (ByteArray.empty, ByteArray.empty, 0) (slB zs) j 1 hl (by omega)
 rw [e] at h0 h1
 exact ⟨h0, h1⟩
theorem prs_cons (z : ByteArray × ByteArray) (r : List (ByteArray × ByteArray)) : rowsOf prCells (slB (z :: r)) = .string z.1 :: .string z.2 :: rowsOf prCells (slB r) := by simp [slB, rowsOf, prCells]
theorem prs_set0 (s : ByteArray) : ∀ (zs : List (ByteArray × ByteArray)) (i : Nat), i < zs.length → (rowsOf prCells (slB zs)).set (i * 2) (.string s) = rowsOf prCells (slB (zs.set i (s, (zs.getD i dP).2)))
 | [], i, h => by simp at h
 | z :: r, 0, h => by
  show _ = rowsOf prCells (slB ((s, z.2) :: r))
  rw [prs_cons, prs_cons]; rfl
 | z :: r, i + 1, h => by
  have e : (z :: r).set (i + 1) (s, ((z :: r).getD (i + 1) dP).2) = z :: r.set i (s, (r.getD i dP).2) := by simp
  rw [e, prs_cons, prs_cons, ← prs_set0 s r i (by simpa using h), show (i + 1) * 2 = i * 2 + 1 + 1 by omega]; rfl
theorem prs_set1 (s : ByteArray) : ∀ (zs : List (ByteArray × ByteArray)) (i : Nat), i < zs.length → (rowsOf prCells (slB zs)).set (i * 2 + 1) (.string s) = rowsOf prCells (slB (zs.set i ((zs.getD i dP).1, s)))
 | [], i, h => by simp at h
 | z :: r, 0, h => by
  show _ = rowsOf prCells (slB ((z.1, s) :: r))
  rw [prs_cons, prs_cons]; rfl
 | z :: r, i + 1, h => by
  have e : (z :: r).set (i + 1) (((z :: r).getD (i + 1) dP).1, s) = z :: r.set i ((r.getD i dP).1, s) := by simp
  rw [e, prs_cons, prs_cons, ← prs_set1 s r i (by simpa using h), show (i + 1) * 2 + 1 = (i * 2 + 1) + 1 + 1 by omega]; rfl
theorem pairs_set0 {w : World} {base n g c i : Nat} {zs : List (ByteArray × ByteArray)} {s : ByteArray} (h : w.ownsRow base 37 2 (.slice (some ⟨g, 0, none⟩) n c) n (rowsOf prCells (slB zs))) (hl : zs.length = n) (hi : i < n) : (w.setCell ⟨g, i * 2, none⟩ (.string s)).ownsRow base 37 2 (.slice (some ⟨g, 0, none⟩) n c) n (rowsOf prCells (slB (zs.set i (s, (zs.getD i dP).2)))) := by
 rw [← prs_set0 s zs i (by omega)]
 exact (h.stored (i * 2) (.string s)).1
theorem pairs_set1 {w : World} {base n g c i : Nat} {zs : List (ByteArray × ByteArray)} {s : ByteArray} (h : w.ownsRow base 37 2 (.slice (some ⟨g, 0, none⟩) n c) n (rowsOf prCells (slB zs))) (hl : zs.length = n) (hi : i < n) : (w.setCell ⟨g, i * 2 + 1, none⟩ (.string s)).ownsRow base 37 2 (.slice (some ⟨g, 0, none⟩) n c) n (rowsOf prCells (slB (zs.set i ((zs.getD i dP).1, s)))) := by
 rw [← prs_set1 s zs i (by omega)]
 exact (h.stored (i * 2 + 1) (.string s)).1
theorem FitZ.set {zs : List (ByteArray × ByteArray)} (h : FitZ zs) (i : Nat) (z : ByteArray × ByteArray) (h1 : z.1.size ≤ 1000) (h2 : z.2.size ≤ 1000) : FitZ (zs.set i z) := by
 intro y hy
 rcases List.mem_or_eq_of_mem_set hy with h3 | rfl
 ·exact h y h3
 ·exact ⟨h1, h2⟩
theorem fit_at {zs : List (ByteArray × ByteArray)} (h : FitZ zs) (i : Nat) : (zs.getD i dP).1.size ≤ 1000 ∧ (zs.getD i dP).2.size ≤ 1000 := by
 by_cases hi : i < zs.length
 ·rw [show zs.getD i dP = zs[i] by simp [List.getD, hi]]; exact h _ (List.getElem_mem _)
 ·rw [show zs.getD i dP = dP by simp [List.getD, Nat.le_of_not_lt hi]]; exact ⟨by decide, by decide⟩
theorem fr_setB (w : World) (g i : Nat) (u : Value) : Fr (fun x => x = g) w (w.setCell ⟨g, i, none⟩ u) := ⟨rfl, rfl, rfl, by simp [World.setCell], fun k _ hk => Below.heap_setCell w ⟨g, i, none⟩ u k hk⟩
set_option maxHeartbeats 6400000 in
theorem drawTreeBulk_any (a : Option Addr) (n c : Nat) (bs : List Int) (w : World) (A B : Nat) (hB : B ≤ w.heap.size) (h : BytesAt w A B a n c bs) :
  Calls Try.prog 4 #[.slice a n c] w fun e w' => ∃ (a' : Option Addr) (m c' : Nat) (zs : List (ByteArray × ByteArray)), e = .returned (.slice a' m c') ∧ m ≤ 4000 ∧ zs.length = m ∧ FitZ zs ∧ w'.ownsRow w.heap.size 37 2 (.slice a' m c') m (rowsOf prCells (slB zs)) ∧ Below w.heap.size w w' := by
 go_enter Try.func4, Try.ntmps4
 go_wp2_with fail
 refine (l1New_any a n c bs w A B hB h).mono ?_
 rintro e w1 ⟨C, rfl, hC, hD1, b1⟩
 clear h
 go_wp2_with fail
 refine (l1Below_any C A B w1 hD1 70 (by omega) (by omega)).mono ?_
 rintro e w2 ⟨m, rfl, hm0, hD2, hF2⟩
 have b2 := b1.trans (hF2.below b1.size (fun g e => by omega))
 clear hD1 b1 hF2
 go_wp2_with fail
 refine (l1Once_any C A B w2 hD2 3 (by omega) (by omega)).mono ?_
 rintro e w3 ⟨o1, rfl, hD3, hF3⟩
 have b3 := b2.trans (hF3.below b2.size (fun g e => by omega))
 clear hD2 b2 hF3
 cases o1
 ·have hD4 := hD3
  have b4 := b3
  clear hD3 b3
  generalize w3 = w4 at hD4 b4 ⊢
  go_wp2_with fail
  refine (l1Once_any C A B w4 hD4 60 (by omega) (by omega)).mono ?_
  rintro e w4b ⟨o2, rfl, hD4b, hF4b⟩
  have b4b := b4.trans (hF4b.below b4.size (fun g e => by omega))
  clear hD4 b4 hF4b
  cases o2
  ·have hm : m ≤ 3002 := by omega
   have hD := hD4b
   have bW := b4b
   clear hD4b b4b hm0
   generalize w4b = W at hD bW ⊢
   go_wp2_with fail
   refine (l3DrawPairs_any C A B W hD m (by omega)).mono ?_
   rintro e w5 ⟨pa, pc, zs, rfl, hl, hz, hO5, hD5, hF5⟩
   have b5 : Below w.heap.size w w5 := bW.trans (hF5.below bW.size (fun g e => by omega))
   have hCW := hD.lt
   have hsW := bW.size
   clear hD hF5 bW
   go_wp2_with fail
   refine (l1Below_any C A B w5 hD5 20 (by omega) (by omega)).mono ?_
   rintro e w6 ⟨k, rfl, hk, hD6, hF6⟩
   have hO6 := owns_fr hO5 hF6 (fun g e e' => by have := (hO5.lt g e).1; omega)
   have b6 := b5.trans (hF6.below b5.size (fun g e => by omega))
   clear hO5 hD5 hF6 b5
   have HL : Hid (zs.length = m) := hl
   clear hl
   by_cases h0 : m = 0
   ·subst h0
    have hz0 : ((0 : Nat) : Int) = 0 := rfl
    go_wp2_with fail
    go_ret
    exact ⟨pa, 0, pc, zs, rfl, by omega, HL.out, hz, owns_base hO6 (by omega), b6⟩
   ·have hne : ((m : Int) == 0) = false := by simp; omega
    go_wp2_with fail
    refine (l1Below_any C A B w6 hD6 m (by omega) (by omega)).mono ?_
    rintro e w7 ⟨i, rfl, hi, hD7, hF7⟩
    have hO7 := owns_fr hO6 hF7 (fun g e e' => by have := (hO6.lt g e).1; omega)
    have b7 := b6.trans (hF7.below b6.size (fun g e => by omega))
    clear hO6 hD6 hF7 b6
    have hi2 : i < m := by omega
    obtain ⟨g, rfl⟩ := owns_someD hO7 (by omega)
    have hgl := hO7.lt g rfl
    by_cases hk0 : k = 0
    ·subst hk0
     have hO8 := pairs_set0 hO7 HL.out hi2 (s := ⟨#[112]⟩)
     have b8 : Below w.heap.size w (w7.setCell ⟨g, i * 2, none⟩ (.string ⟨#[112]⟩)) := b7.trans ((fr_setB w7 g (i * 2) _).below b7.size (fun x e => by omega))
     have hcell := hO7.cellAt (i * 2) (by omega)
     rw [(prs_get2 zs i (by rw [HL.out]; exact hi2)).1] at hcell
     have hfz := hO7.frozenAt (i * 2)
     clear hO7 b7
     go_wp2_with fail
     go_ret
     exact ⟨_, m, pc, zs.set i (⟨#[112]⟩, (zs.getD i dP).2), rfl, by omega, (by rw [List.length_set]; exact HL.out), hz.set _ _ (show (1 : Nat) ≤ 1000 by omega) (fit_at hz i).2, owns_base hO8 (by omega), b8⟩
    ·have n0 : ((k : Int) == 0) = false := by simp; omega
     by_cases hk1 : k = 1
     ·subst hk1
      go_wp2_with fail
      refine (l1Many_any ⟨#[118]⟩ (by decide) 401 (by omega) w7).mono ?_
      rintro e w8 ⟨t, rfl, ht, hb8⟩
      have ht4 : t.size ≤ 1000 := by rw [ht]; show 1 * 401 ≤ 1000; omega
      have hO8 := owns_below hO7 hb8
      have b8 := b7.trans (hb8.mono b7.size)
      have hgl8 := hb8.size
      clear hO7 b7 hb8 ht
      have hO9 := pairs_set1 hO8 HL.out hi2 (s := t)
      have b9 : Below w.heap.size w (w8.setCell ⟨g, i * 2 + 1, none⟩ (.string t)) := b8.trans ((fr_setB w8 g (i * 2 + 1) _).below b8.size (fun x e => by omega))
      have hcell := hO8.cellAt (i * 2 + 1) (by omega)
      rw [(prs_get2 zs i (by rw [HL.out]; exact hi2)).2] at hcell
      have hfz := hO8.frozenAt (i * 2 + 1)
      clear hO8 b8
      go_wp2_with fail
      go_ret
      exact ⟨_, m, pc, zs.set i ((zs.getD i dP).1, t), rfl, by omega, (by rw [List.length_set]; exact HL.out), hz.set _ _ (fit_at hz i).1 ht4, owns_base hO9 (by omega), b9⟩
     ·have n1 : ((k : Int) == 1) = false := by simp; omega
      go_wp2_with fail
      go_ret
      exact ⟨_, m, pc, zs, rfl, by omega, HL.out, hz, owns_base hO7 (by omega), b7⟩
  ·go_wp2_with fail
   refine (l1Below_any C A B w4b hD4b 4 (by omega) (by omega)).mono ?_
   rintro e W ⟨y, rfl, hy, hD, hF⟩
   have bW := b4b.trans (hF.below b4b.size (fun g e => by omega))
   clear hD4b b4b hF hm0
   obtain ⟨m, hmy⟩ : ∃ m : Nat, (2999 : Int) + (y : Int) = (m : Int) := ⟨2999 + y, by omega⟩
   have hm : m ≤ 3002 := by omega
   go_wp2_with fail
   clear hmy
   refine (l3DrawPairs_any C A B W hD m (by omega)).mono ?_
   rintro e w5 ⟨pa, pc, zs, rfl, hl, hz, hO5, hD5, hF5⟩
   have b5 : Below w.heap.size w w5 := bW.trans (hF5.below bW.size (fun g e => by omega))
   have hCW := hD.lt
   have hsW := bW.size
   clear hD hF5 bW
   go_wp2_with fail
   refine (l1Below_any C A B w5 hD5 20 (by omega) (by omega)).mono ?_
   rintro e w6 ⟨k, rfl, hk, hD6, hF6⟩
   have hO6 := owns_fr hO5 hF6 (fun g e e' => by have := (hO5.lt g e).1; omega)
   have b6 := b5.trans (hF6.below b5.size (fun g e => by omega))
   clear hO5 hD5 hF6 b5
   have HL : Hid (zs.length = m) := hl
   clear hl
   by_cases h0 : m = 0
   ·subst h0
    have hz0 : ((0 : Nat) : Int) = 0 := rfl
    go_wp2_with fail
    go_ret
    exact ⟨pa, 0, pc, zs, rfl, by omega, HL.out, hz, owns_base hO6 (by omega), b6⟩
   ·have hne : ((m : Int) == 0) = false := by simp; omega
    go_wp2_with fail
    refine (l1Below_any C A B w6 hD6 m (by omega) (by omega)).mono ?_
    rintro e w7 ⟨i, rfl, hi, hD7, hF7⟩
    have hO7 := owns_fr hO6 hF7 (fun g e e' => by have := (hO6.lt g e).1; omega)
    have b7 := b6.trans (hF7.below b6.size (fun g e => by omega))
    clear hO6 hD6 hF7 b6
    have hi2 : i < m := by omega
    obtain ⟨g, rfl⟩ := owns_someD hO7 (by omega)
    have hgl := hO7.lt g rfl
    by_cases hk0 : k = 0
    ·subst hk0
     have hO8 := pairs_set0 hO7 HL.out hi2 (s := ⟨#[112]⟩)
     have b8 : Below w.heap.size w (w7.setCell ⟨g, i * 2, none⟩ (.string ⟨#[112]⟩)) := b7.trans ((fr_setB w7 g (i * 2) _).below b7.size (fun x e => by omega))
     have hcell := hO7.cellAt (i * 2) (by omega)
     rw [(prs_get2 zs i (by rw [HL.out]; exact hi2)).1] at hcell
     have hfz := hO7.frozenAt (i * 2)
     clear hO7 b7
     go_wp2_with fail
     go_ret
     exact ⟨_, m, pc, zs.set i (⟨#[112]⟩, (zs.getD i dP).2), rfl, by omega, (by rw [List.length_set]; exact HL.out), hz.set _ _ (show (1 : Nat) ≤ 1000 by omega) (fit_at hz i).2, owns_base hO8 (by omega), b8⟩
    ·have n0 : ((k : Int) == 0) = false := by simp; omega
     by_cases hk1 : k = 1
     ·subst hk1
      go_wp2_with fail
      refine (l1Many_any ⟨#[118]⟩ (by decide) 401 (by omega) w7).mono ?_
      rintro e w8 ⟨t, rfl, ht, hb8⟩
      have ht4 : t.size ≤ 1000 := by rw [ht]; show 1 * 401 ≤ 1000; omega
      have hO8 := owns_below hO7 hb8
      have b8 := b7.trans (hb8.mono b7.size)
      have hgl8 := hb8.size
      clear hO7 b7 hb8 ht
      have hO9 := pairs_set1 hO8 HL.out hi2 (s := t)
      have b9 : Below w.heap.size w (w8.setCell ⟨g, i * 2 + 1, none⟩ (.string t)) := b8.trans ((fr_setB w8 g (i * 2 + 1) _).below b8.size (fun x e => by omega))
      have hcell := hO8.cellAt (i * 2 + 1) (by omega)
      rw [(prs_get2 zs i (by rw [HL.out]; exact hi2)).2] at hcell
      have hfz := hO8.frozenAt (i * 2 + 1)
      clear hO8 b8
      go_wp2_with fail
      go_ret
      exact ⟨_, m, pc, zs.set i ((zs.getD i dP).1, t), rfl, by omega, (by rw [List.length_set]; exact HL.out), hz.set _ _ (fit_at hz i).1 ht4, owns_base hO9 (by omega), b9⟩
     ·have n1 : ((k : Int) == 1) = false := by simp; omega
      go_wp2_with fail
      go_ret
      exact ⟨_, m, pc, zs, rfl, by omega, HL.out, hz, owns_base hO7 (by omega), b7⟩
 ·go_wp2_with fail
  refine (l1Below_any C A B w3 hD3 8 (by omega) (by omega)).mono ?_
  rintro e w4 ⟨m, rfl, hm0, hD4, hF4⟩
  have b4 := b3.trans (hF4.below b3.size (fun g e => by omega))
  clear hD3 b3 hF4
  go_wp2_with fail
  refine (l1Once_any C A B w4 hD4 60 (by omega) (by omega)).mono ?_
  rintro e w4b ⟨o2, rfl, hD4b, hF4b⟩
  have b4b := b4.trans (hF4b.below b4.size (fun g e => by omega))
  clear hD4 b4 hF4b
  cases o2
  ·have hm : m ≤ 3002 := by omega
   have hD := hD4b
   have bW := b4b
   clear hD4b b4b hm0
   generalize w4b = W at hD bW ⊢
   go_wp2_with fail
   refine (l3DrawPairs_any C A B W hD m (by omega)).mono ?_
   rintro e w5 ⟨pa, pc, zs, rfl, hl, hz, hO5, hD5, hF5⟩
   have b5 : Below w.heap.size w w5 := bW.trans (hF5.below bW.size (fun g e => by omega))
   have hCW := hD.lt
   have hsW := bW.size
   clear hD hF5 bW
   go_wp2_with fail
   refine (l1Below_any C A B w5 hD5 20 (by omega) (by omega)).mono ?_
   rintro e w6 ⟨k, rfl, hk, hD6, hF6⟩
   have hO6 := owns_fr hO5 hF6 (fun g e e' => by have := (hO5.lt g e).1; omega)
   have b6 := b5.trans (hF6.below b5.size (fun g e => by omega))
   clear hO5 hD5 hF6 b5
   have HL : Hid (zs.length = m) := hl
   clear hl
   by_cases h0 : m = 0
   ·subst h0
    have hz0 : ((0 : Nat) : Int) = 0 := rfl
    go_wp2_with fail
    go_ret
    exact ⟨pa, 0, pc, zs, rfl, by omega, HL.out, hz, owns_base hO6 (by omega), b6⟩
   ·have hne : ((m : Int) == 0) = false := by simp; omega
    go_wp2_with fail
    refine (l1Below_any C A B w6 hD6 m (by omega) (by omega)).mono ?_
    rintro e w7 ⟨i, rfl, hi, hD7, hF7⟩
    have hO7 := owns_fr hO6 hF7 (fun g e e' => by have := (hO6.lt g e).1; omega)
    have b7 := b6.trans (hF7.below b6.size (fun g e => by omega))
    clear hO6 hD6 hF7 b6
    have hi2 : i < m := by omega
    obtain ⟨g, rfl⟩ := owns_someD hO7 (by omega)
    have hgl := hO7.lt g rfl
    by_cases hk0 : k = 0
    ·subst hk0
     have hO8 := pairs_set0 hO7 HL.out hi2 (s := ⟨#[112]⟩)
     have b8 : Below w.heap.size w (w7.setCell ⟨g, i * 2, none⟩ (.string ⟨#[112]⟩)) := b7.trans ((fr_setB w7 g (i * 2) _).below b7.size (fun x e => by omega))
     have hcell := hO7.cellAt (i * 2) (by omega)
     rw [(prs_get2 zs i (by rw [HL.out]; exact hi2)).1] at hcell
     have hfz := hO7.frozenAt (i * 2)
     clear hO7 b7
     go_wp2_with fail
     go_ret
     exact ⟨_, m, pc, zs.set i (⟨#[112]⟩, (zs.getD i dP).2), rfl, by omega, (by rw [List.length_set]; exact HL.out), hz.set _ _ (show (1 : Nat) ≤ 1000 by omega) (fit_at hz i).2, owns_base hO8 (by omega), b8⟩
    ·have n0 : ((k : Int) == 0) = false := by simp; omega
     by_cases hk1 : k = 1
     ·subst hk1
      go_wp2_with fail
      refine (l1Many_any ⟨#[118]⟩ (by decide) 401 (by omega) w7).mono ?_
      rintro e w8 ⟨t, rfl, ht, hb8⟩
      have ht4 : t.size ≤ 1000 := by rw [ht]; show 1 * 401 ≤ 1000; omega
      have hO8 := owns_below hO7 hb8
      have b8 := b7.trans (hb8.mono b7.size)
      have hgl8 := hb8.size
      clear hO7 b7 hb8 ht
      have hO9 := pairs_set1 hO8 HL.out hi2 (s := t)
      have b9 : Below w.heap.size w (w8.setCell ⟨g, i * 2 + 1, none⟩ (.string t)) := b8.trans ((fr_setB w8 g (i * 2 + 1) _).below b8.size (fun x e => by omega))
      have hcell := hO8.cellAt (i * 2 + 1) (by omega)
      rw [(prs_get2 zs i (by rw [HL.out]; exact hi2)).2] at hcell
      have hfz := hO8.frozenAt (i * 2 + 1)
      clear hO8 b8
      go_wp2_with fail
      go_ret
      exact ⟨_, m, pc, zs.set i ((zs.getD i dP).1, t), rfl, by omega, (by rw [List.length_set]; exact HL.out), hz.set _ _ (fit_at hz i).1 ht4, owns_base hO9 (by omega), b9⟩
     ·have n1 : ((k : Int) == 1) = false := by simp; omega
      go_wp2_with fail
      go_ret
      exact ⟨_, m, pc, zs, rfl, by omega, HL.out, hz, owns_base hO7 (by omega), b7⟩
  ·go_wp2_with fail
   refine (l1Below_any C A B w4b hD4b 4 (by omega) (by omega)).mono ?_
   rintro e W ⟨y, rfl, hy, hD, hF⟩
   have bW := b4b.trans (hF.below b4b.size (fun g e => by omega))
   clear hD4b b4b hF hm0
   obtain ⟨m, hmy⟩ : ∃ m : Nat, (2999 : Int) + (y : Int) = (m : Int) := ⟨2999 + y, by omega⟩
   have hm : m ≤ 3002 := by omega
   go_wp2_with fail
   clear hmy
   refine (l3DrawPairs_any C A B W hD m (by omega)).mono ?_
   rintro e w5 ⟨pa, pc, zs, rfl, hl, hz, hO5, hD5, hF5⟩
   have b5 : Below w.heap.size w w5 := bW.trans (hF5.below bW.size (fun g e => by omega))
   have hCW := hD.lt
   have hsW := bW.size
   clear hD hF5 bW
   go_wp2_with fail
   refine (l1Below_any C A B w5 hD5 20 (by omega) (by omega)).mono ?_
   rintro e w6 ⟨k, rfl, hk, hD6, hF6⟩
   have hO6 := owns_fr hO5 hF6 (fun g e e' => by have := (hO5.lt g e).1; omega)
   have b6 := b5.trans (hF6.below b5.size (fun g e => by omega))
   clear hO5 hD5 hF6 b5
   have HL : Hid (zs.length = m) := hl
   clear hl
   by_cases h0 : m = 0
   ·subst h0
    have hz0 : ((0 : Nat) : Int) = 0 := rfl
    go_wp2_with fail
    go_ret
    exact ⟨pa, 0, pc, zs, rfl, by omega, HL.out, hz, owns_base hO6 (by omega), b6⟩
   ·have hne : ((m : Int) == 0) = false := by simp; omega
    go_wp2_with fail
    refine (l1Below_any C A B w6 hD6 m (by omega) (by omega)).mono ?_
    rintro e w7 ⟨i, rfl, hi, hD7, hF7⟩
    have hO7 := owns_fr hO6 hF7 (fun g e e' => by have := (hO6.lt g e).1; omega)
    have b7 := b6.trans (hF7.below b6.size (fun g e => by omega))
    clear hO6 hD6 hF7 b6
    have hi2 : i < m := by omega
    obtain ⟨g, rfl⟩ := owns_someD hO7 (by omega)
    have hgl := hO7.lt g rfl
    by_cases hk0 : k = 0
    ·subst hk0
     have hO8 := pairs_set0 hO7 HL.out hi2 (s := ⟨#[112]⟩)
     have b8 : Below w.heap.size w (w7.setCell ⟨g, i * 2, none⟩ (.string ⟨#[112]⟩)) := b7.trans ((fr_setB w7 g (i * 2) _).below b7.size (fun x e => by omega))
     have hcell := hO7.cellAt (i * 2) (by omega)
     rw [(prs_get2 zs i (by rw [HL.out]; exact hi2)).1] at hcell
     have hfz := hO7.frozenAt (i * 2)
     clear hO7 b7
     go_wp2_with fail
     go_ret
     exact ⟨_, m, pc, zs.set i (⟨#[112]⟩, (zs.getD i dP).2), rfl, by omega, (by rw [List.length_set]; exact HL.out), hz.set _ _ (show (1 : Nat) ≤ 1000 by omega) (fit_at hz i).2, owns_base hO8 (by omega), b8⟩
    ·have n0 : ((k : Int) == 0) = false := by simp; omega
     by_cases hk1 : k = 1
     ·subst hk1
      go_wp2_with fail
      refine (l1Many_any ⟨#[118]⟩ (by decide) 401 (by omega) w7).mono ?_
      rintro e w8 ⟨t, rfl, ht, hb8⟩
      have ht4 : t.size ≤ 1000 := by rw [ht]; show 1 * 401 ≤ 1000; omega
      have hO8 := owns_below hO7 hb8
      have b8 := b7.trans (hb8.mono b7.size)
      have hgl8 := hb8.size
      clear hO7 b7 hb8 ht
      have hO9 := pairs_set1 hO8 HL.out hi2 (s := t)
      have b9 : Below w.heap.size w (w8.setCell ⟨g, i * 2 + 1, none⟩ (.string t)) := b8.trans ((fr_setB w8 g (i * 2 + 1) _).below b8.size (fun x e => by omega))
      have hcell := hO8.cellAt (i * 2 + 1) (by omega)
      rw [(prs_get2 zs i (by rw [HL.out]; exact hi2)).2] at hcell
      have hfz := hO8.frozenAt (i * 2 + 1)
      clear hO8 b8
      go_wp2_with fail
      go_ret
      exact ⟨_, m, pc, zs.set i ((zs.getD i dP).1, t), rfl, by omega, (by rw [List.length_set]; exact HL.out), hz.set _ _ (fit_at hz i).1 ht4, owns_base hO9 (by omega), b9⟩
     ·have n1 : ((k : Int) == 1) = false := by simp; omega
      go_wp2_with fail
      go_ret
      exact ⟨_, m, pc, zs, rfl, by omega, HL.out, hz, owns_base hO7 (by omega), b7⟩
theorem cell_oneF {w : World} {g : Nat} {v : Value} {t : TypeId} (h : w.heap[g]? = some (.cells #[v] t)) : w.cell? ⟨g, 0, none⟩ = some v := by simp [World.cell?, h]
theorem prAt_ownF {w : World} {base n c : Nat} {a : Option Addr} {zs : List (ByteArray × ByteArray)} (h : w.ownsRow base 37 2 (.slice a n c) n (rowsOf prCells (slB zs))) (hl : zs.length = n) : PrAt w w.heap.size a n c zs := by
 rcases h.2 with ⟨e, e2⟩ | ⟨g, cap, cur, e, hg1, hg2, h1, h2, _⟩
 ·simp only [Value.slice.injEq] at e
  obtain ⟨rfl, rfl, rfl⟩ := e
  exact ⟨hl, Nat.le_refl _, by unfold maxLen; omega, fun h0 => absurd h0 (Nat.lt_irrefl _)⟩
 ·simp only [Value.slice.injEq] at e
  obtain ⟨rfl, _, rfl⟩ := e
  refine ⟨hl, by omega, h2, fun h0 => ⟨g, 0, rfl, (h.lt g rfl).2, fun i hi => ?_⟩⟩
  have h9 := prs_get2 zs i (by omega)
  rw [Nat.zero_add, h.cellAt (i * 2) (by omega), h.cellAt (i * 2 + 1) (by omega)]
  exact h9
theorem lwPairs_same (a : Option Addr) (n c : Nat) (a2 : Option Addr) (c2 : Nat) (zs : List (ByteArray × ByteArray)) (w : World) (B B2 : Nat) (hB : B ≤ w.heap.size) (hB2 : B2 ≤ w.heap.size) (h : PrAt w B a n c zs) (h2 : PrAt w B2 a2 n c2 zs) :
  Calls Try.prog 8 #[.slice a n c, .slice a2 n c2] w fun e w' => e = .returned (.bool true) ∧ Below w.heap.size w w' := by
 have hcc := h.2.1
 have hcm := h.2.2.1
 unfold maxLen at hcm
 have H1 : Hid (PrAt w B a n c zs) := h
 have H2 : Hid (PrAt w B2 a2 n c2 zs) := h2
 clear h h2
 have hnn : ((n : Int) != (n : Int)) = false := by simp
 go_enter Try.func8, Try.ntmps8
 go_wp2_with fail
 go_loopw [5] (fun i wr => ∃ j : Nat, j ≤ n ∧ i = .int .i64 j ∧ Below w.heap.size w wr) (fun i _ => n - (intOf i).toNat)
 case atStart => exact ⟨0, Nat.zero_le _, rfl, Below.refl _ _⟩
 case round =>
  obtain ⟨j, hj, rfl, hb⟩ := hrel
  by_cases hlt : j < n
  ·obtain ⟨b, off, rfl, _, hc⟩ := (H1.out.below (hb.mono hB)).2.2.2 (by omega)
   obtain ⟨b2, off2, rfl, _, hc2⟩ := (H2.out.below (hb.mono hB2)).2.2.2 (by omega)
   have c0 := (hc j hlt).1
   have c1 := (hc j hlt).2
   have d0 := (hc2 j hlt).1
   have d1 := (hc2 j hlt).2
   generalize (zs.getD j (ByteArray.empty, ByteArray.empty)).1 = sk at c0 d0
   generalize (zs.getD j (ByteArray.empty, ByteArray.empty)).2 = sv at c1 d1
   clear hc hc2
   go_wp2_with fail
   go_quiet (fail)
   have hb2 : Below w.heap.size w (wr.drewN nq) := hb.trans ⟨rfl, rfl, rfl, Nat.le_refl _, fun _ _ => rfl⟩
   generalize wr.drewN nq = w2 at hb2 ⊢
   clear c0 c1 d0 d1 hb
   go_wp2_with fail
   go_roundw
   case rel => exact ⟨j + 1, by omega, by go_num, hb2⟩
   case measure => simp [intOf]; omega
  ·go_wp2_with fail
   go_ret
   exact ⟨rfl, hb⟩
theorem run_fieldNodes (a : Option Addr) (n c : Nat) (w : World) : (Instr.field 27 (.agg #[.slice a n c]) 0).run Try.prog w = .ok (.slice a n c) w := by
 simp [Instr.field, asAgg, go_sem]
theorem run_fieldTree (b : Bool) (a : Option Addr) (n c : Nat) (w : World) : (Instr.field 34 (.agg #[.bool b, .slice a n c]) 1).run Try.prog w = .ok (.agg #[.slice a n c]) w := by
 simp [Instr.field, asAgg, go_sem]
set_option maxHeartbeats 8000000 in
theorem law_Bulk (a : Option Addr) (n c : Nat) (bs : List Int) (w : World) (h : BytesAt w 0 w.heap.size a n c bs) :
  Calls Try.prog 3 #[.slice a n c] w fun e w' => e = .returned (.bool true) ∧ Below w.heap.size w w' := by
 have hcm := h.2.2.1
 have hnc := h.2.1
 unfold maxLen at hcm
 obtain ⟨N, hN⟩ : ∃ N, w.heap.size = N := ⟨_, rfl⟩
 have hd := drawTreeBulk_any a n c bs w 0 w.heap.size (Nat.le_refl _) h
 rw [hN] at hd ⊢
 clear h
 go_enter Try.func3, Try.ntmps3
 by_cases hn : n ≤ 1048576
 ·go_wp2_with fail
  refine hd.mono ?_
  rintro e w1 ⟨pa, m, pc, zs, rfl, hm, hl, hz, hO1, b1⟩
  have s1 := b1.size
  have P1 := prAt_ownF hO1 hl
  have HL : Hid (zs.length = m) := hl
  clear hd hO1 hl hz
  have hc := implBulk_any pa m pc zs w1 w1.heap.size (Nat.le_refl _) P1 (by omega)
  have hpc := P1.2.1
  have hpm := P1.2.2.1
  unfold maxLen at hpm
  go_wp2_with fail
  refine hc.mono ?_
  rintro e w2 ⟨ia, ic, us, rfl, oT, b2⟩
  clear hc
  obtain ⟨k, hk⟩ : ∃ k, (bulkNs zs).length = k := ⟨_, rfl⟩
  have HK : Hid ((bulkNs zs).length = k) := hk
  have hk1 : k ≤ 1000 := by rw [← hk]; exact (bulk_short zs).1
  rw [hk] at oT ⊢
  clear hk
  have s2 := b2.size
  have g2 := b1.trans (b2.mono (by omega))
  have P2 : PrAt w2 w1.heap.size pa m pc zs := P1.below b2
  obtain ⟨Y, hY⟩ : ∃ Y, w2.heap.size = Y := ⟨_, rfl⟩
  have b3 : Below w2.heap.size w2 (w2.alloc (.cells #[.slice ia k ic] 27)) := (Below.refl _ _).alloc (Nat.le_refl _) _
  have Y3 := heap_alloc_new w2 (.cells #[.slice ia k ic] 27)
  have z3 : (w2.alloc (.cells #[.slice ia k ic] 27)).heap.size = Y + 1 := by rw [← hY]; simp
  have O3 := oT.below b3
  go_upto_region 5 with fail
  generalize w2.alloc (.cells #[.slice ia k ic] 27) = W3 at b3 Y3 z3 O3 ⊢
  rw [hY] at b3 Y3
  have g3 := g2.trans (b3.mono (by omega))
  have P3 : PrAt W3 w1.heap.size pa m pc zs := P2.below (b3.mono (by omega))
  clear P1 P2 oT b1 b2 g2 b3
  have hc := specBulk_any pa m pc zs W3 w1.heap.size (by omega) P3 (by omega)
  go_wp2_with fail
  refine hc.mono ?_
  rintro e w4 ⟨oa, oc, rfl, nA, b4⟩
  clear hc
  rw [HK.out] at nA ⊢
  clear nA
  have s4 := b4.size
  have g4 := g3.trans (b4.mono (by omega))
  have P4 : PrAt w4 w1.heap.size pa m pc zs := P3.below (b4.mono (by omega))
  have Y4 := (b4.block Y (by omega)).trans Y3
  have O4 := O3.below b4
  clear P3 O3 Y3 g3 b4
  have hfd := run_fieldNodes oa k oc w4
  by_cases h0 : k = 0
  ·subst h0
   have y4 := cell_oneF Y4
   have hY4 : Y < w4.heap.size := by omega
   have hz0 : ((0 : Nat) : Int) = 0 := rfl
   clear P4 O4 Y4
   go_wp2_with fail
   go_ret
   exact ⟨rfl, g4⟩
  ·have hne : ((k : Int) == 0) = false := by simp; omega
   have hbn : bulkNs zs ≠ [] := fun e => by have := HK.out; rw [e] at this; simp at this; omega
   obtain ⟨hok, t, hM, hm1, hfl, hleast⟩ := bulk_made hbn
   obtain ⟨v1, v2, v3⟩ := made_valid hM hm1
   obtain ⟨u1, u2, u3⟩ := made_use hM hm1
   rw [← hfl] at v1 v3 u1 u3
   have NA := OwnT.nodesF O4 HK.out.symm u1
   have HV : Hid (SpecOk (bulkNs zs)) := v1
   have HS : Hid (∀ ys, implScan (bulkNs zs) ⟨#[]⟩ ⟨#[]⟩ ys → ys = slB zs) := v3
   have HLe : Hid (∀ u, Made zs u → k ≤ u.nodes) := fun u hu => by have := hleast u hu; have := HK.out; omega
   have HOK : Hid (bulkOk zs = true) := hok
   have y4 := cell_oneF Y4
   have hY4 : Y < w4.heap.size := by omega
   have hv := specValid_any (bulkNs zs) ia k ic W3.heap.size w4.heap.size w4
   clear O4 v1 v2 v3 u1 u2 u3 hM hm1 hfl hleast hok hbn t
   have hc := specValid_any (bulkNs zs) ia k ic _ w4.heap.size w4 (Nat.le_refl _) NA
   clear hv
   go_wp2_with fail
   refine hc.mono ?_
   rintro e w5 ⟨r, rfl, hr, b5⟩
   obtain rfl : r = true := hr.2 HV.out
   clear hc hr
   have s5 := b5.size
   have g5 := g4.trans (b5.mono (by omega))
   have P5 : PrAt w5 w1.heap.size pa m pc zs := P4.below (b5.mono (by omega))
   have Y5 := (b5.block Y (by omega)).trans Y4
   have NA5 := NA.below b5
   clear P4 Y4 y4 NA g4 b5 hfd
   have y5 := cell_oneF Y5
   have hY5 : Y < w5.heap.size := by omega
   have hc := implScan_any (bulkNs zs) ⟨#[]⟩ ⟨#[]⟩ ia k ic _ w4.heap.size w5 (by omega) NA5
   go_wp2_with fail
   refine hc.mono ?_
   rintro e w6 ⟨ys, hys, sa, sc, rfl, hO6, b6⟩
   obtain rfl := HS.out ys hys
   have hsl : (slB zs).length = m := by simp [slB, HL.out]
   rw [hsl] at hO6 ⊢
   clear hc hys hsl
   have s6 := b6.size
   have g6 := g5.trans (b6.mono (by omega))
   have P6 : PrAt w6 w1.heap.size pa m pc zs := P5.below (b6.mono (by omega))
   have Q6 := prAt_ownF hO6 HL.out
   have Y6 := (b6.block Y (by omega)).trans Y5
   clear P5 Y5 y5 NA5 g5 b6 hO6
   have hc := lwPairs_same sa m sc pa pc zs w6 w6.heap.size w1.heap.size (Nat.le_refl _) (by omega) Q6 P6
   go_wp2_with fail
   refine hc.mono ?_
   rintro e w7 ⟨rfl, b7⟩
   clear hc Q6
   have s7 := b7.size
   have g7 := g6.trans (b7.mono (by omega))
   have P7 : PrAt w7 w1.heap.size pa m pc zs := P6.below (b7.mono (by omega))
   have Y7 := (b7.block Y (by omega)).trans Y6
   clear P6 Y6 g6 b7
   by_cases h100 : m ≤ 100
   ·have hd1 : ¬ ((100 : Int) < (m : Int)) := by omega
    have hc := implNewU_any w7
    go_wp2_with fail
    refine hc.mono ?_
    rintro e w8 ⟨ua, uc, us8, rfl, oT8, b8⟩
    clear hc
    have s8 := b8.size
    have g8 := g7.trans (b8.mono (by omega))
    have P8 : PrAt w8 w1.heap.size pa m pc zs := P7.below (b8.mono (by omega))
    have Y8 := (b8.block Y (by omega)).trans Y7
    clear P7 Y7 g7 b8
    have M0 : Made (zs.take 0) leafT := by rw [List.take_zero]; exact made_nil
    have l0 : leafT.nodes = 1 := by simp [leafT, T.nodes]
    have f0 : leafT.flat 0 = [⟨true, 0, [], [], [], []⟩] := by rw [T.flat_eq]; rfl
    have NA8 : NodesAt w8 w7.heap.size w8.heap.size ua 1 uc (leafT.flat 0) := by
     have := (made_use M0 (by omega)).1
     rw [f0] at this ⊢
     exact OwnT.nodesF oT8 rfl this
    clear oT8 f0
    obtain ⟨U, hU⟩ : ∃ U, w8.heap.size = U := ⟨_, rfl⟩
    have b9 : Below w8.heap.size w8 (w8.alloc (.cells #[.slice ua 1 uc] 27)) := (Below.refl _ _).alloc (Nat.le_refl _) _
    have U9 := heap_alloc_new w8 (.cells #[.slice ua 1 uc] 27)
    have z9 : (w8.alloc (.cells #[.slice ua 1 uc] 27)).heap.size = U + 1 := by rw [← hU]; simp
    go_upto_region 12 with fail
    generalize w8.alloc (.cells #[.slice ua 1 uc] 27) = W9 at b9 U9 z9 ⊢
    rw [hU] at b9 U9 NA8
    have g9 := g8.trans (b9.mono (by omega))
    have P9 : PrAt W9 w1.heap.size pa m pc zs := P8.below (b9.mono (by omega))
    have Y9 := (b9.block Y (by omega)).trans Y8
    have NA9 := NA8.below b9
    clear P8 Y8 g8 b9 NA8
    have hYU : Y < U := by omega
    have hNU : w1.heap.size ≤ U := by omega
    have hNN : N ≤ U := by omega
    have hw1Y : w1.heap.size ≤ Y := by omega
    clear s4 s5 s6 s7 s8 z3 hY hU
    go_wp2_with fail
    go_loopw [6] (fun i wr => ∃ (j : Nat) (u : T) (va : Option Addr) (vn vc A B : Nat), j ≤ m ∧ i = .int .i64 j ∧ Hid (Made (zs.take j) u ∧ u.nodes ≤ 1000 ∧ u.nodes = vn ∧ NodesAt wr A B va vn vc (u.flat 0)) ∧ (vn ≤ 1000 ∧ vn ≤ vc ∧ vc ≤ 9223372036854775807) ∧ (B ≤ wr.heap.size ∧ (B ≤ U ∨ U < A)) ∧ wr.heap[U]? = some (.cells #[.slice va vn vc] 27) ∧ wr.heap[Y]? = some (.cells #[.slice ia k ic] 27) ∧ PrAt wr w1.heap.size pa m pc zs ∧ Below N w wr) (fun i _ => m - (intOf i).toNat)
    case atStart => exact ⟨0, leafT, ua, 1, uc, _, _, Nat.zero_le _, rfl, ⟨M0, by omega, l0, NA9⟩, ⟨by omega, NA9.2.1, by have := NA9.2.2.1; unfold maxLen at this; omega⟩, ⟨by omega, .inl (Nat.le_refl _)⟩, U9, Y9, P9, g9⟩
    case round =>
     clear M0 l0 NA9 U9 Y9 P9 g9 z9
     obtain ⟨j, u, va, vn, vc, A, B, hj, rfl, HU, hvn, hAB, Ur, Yr, Pr, gr⟩ := hrel
     have hUl := (Array.getElem?_eq_some_iff.1 Ur).1
     by_cases hlt : j < m
     ·obtain ⟨b, off, rfl, hbB, hc⟩ := Pr.2.2.2 (by omega)
      have c0 := (hc j hlt).1
      have c1 := (hc j hlt).2
      have ur := cell_oneF Ur
      have fr := box_thaw Ur
      obtain ⟨hM, hm1, hun, hNA⟩ := HU.out
      obtain ⟨hvs, u2, hM2, hm2, hput⟩ := made_next HOK.out (by rw [HL.out]; exact hlt) (by rw [HL.out]; exact h100) hM hm1
      have hbd : Below wr.heap.size wr wr.drew := (Below.refl _ _).drew
      have hcp := implPut_any (u.flat 0) va vn vc A B wr.drew hAB.1 (hNA.below (hbd.mono hAB.1)) (by omega) (made_use hM hm1).2.1 (zs.getD j dP).1 (zs.getD j dP).2 hvs
      rw [hput] at hcp
      have hl2 : (u2.flat 0).length = u2.nodes := (made_use hM2 hm2).2.2
      have hf2 := (made_use hM2 hm2).1
      unfold dP at hcp
      generalize (zs.getD j (ByteArray.empty, ByteArray.empty)).1 = sk at c0 hcp
      generalize (zs.getD j (ByteArray.empty, ByteArray.empty)).2 = sv at c1 hcp
      have HCP : Hid (Calls Try.prog 11 #[.agg #[.slice va vn vc], .string sk, .string sv] wr.drew fun e w' => ∃ oa oc, e = .returned (.agg #[.bool true, .slice oa u2.nodes oc]) ∧ NodesAt w' wr.heap.size w'.heap.size oa u2.nodes oc (u2.flat 0) ∧ Below wr.heap.size wr w') := by
       refine hcp.mono ?_
       rintro e w' ⟨oa, oc, us2, rfl, oT2, b2⟩
       simp only [hl2] at oT2
       rw [show wr.drew.heap.size = wr.heap.size from rfl] at oT2 b2
       refine ⟨oa, oc, ?_, OwnT.nodesF oT2 hl2.symm hf2, hbd.trans b2⟩
       simp only [hl2]
      have HU2 : Hid (Made (zs.take (j + 1)) u2 ∧ u2.nodes ≤ 1000) := ⟨hM2, hm2⟩
      obtain ⟨n2, hn2⟩ : ∃ n2, u2.nodes = n2 := ⟨_, rfl⟩
      have HN2 : Hid (u2.nodes = n2) := hn2
      have hn21 : n2 ≤ 1000 := by omega
      rw [hn2] at HCP
      clear hbd hc hcp hput hvs hM hm1 hun hNA HU hM2 hm2 hl2 hf2 hn2
      have hsd : wr.drew.heap.size = wr.heap.size := rfl
      go_wp2_with fail
      go_region_with (go_at_call 11; refine HCP.out.mono ?_; rintro e w2 ⟨oa, oc, rfl, nA2, b2⟩; have hfd := run_fieldTree true oa n2 oc w2; have ur2 := cell_oneF ((b2.block U hUl).trans Ur); have fr2 := box_thaw ((b2.block U hUl).trans Ur); have hU2 : U < w2.heap.size := Nat.lt_of_lt_of_le hUl b2.size)
      all_goals
       have Z := fr_setB w2 U 0 (.slice oa n2 oc)
       have s2 := b2.size
       have U3 : (w2.setCell ⟨U, 0, none⟩ (.slice oa n2 oc)).heap[U]? = some (.cells #[.slice oa n2 oc] 27) := by simp [World.setCell, Array.getElem?_modify, (b2.block U hUl).trans Ur]
       have Y3 := (Z.block Y (by omega) (by omega)).trans ((b2.block Y (by omega)).trans Yr)
       have P3 := (Pr.below (b2.mono (by omega))).below (Z.below (by omega) (fun g e => by omega))
       have NA3 := nA2.keep (fun q h1 h2 => Z.block q h2 (by omega))
       have g3 := (gr.trans (b2.mono (by have := gr.size; omega))).trans (Z.below (by have := gr.size; omega) (fun g e => by omega))
       have s3 := Z.size
       have hvc := NA3.2.1
       have hvm := NA3.2.2.1
       unfold maxLen at hvm
       clear ur2 fr2 hfd nA2 Z Ur Yr Pr gr c0 c1 ur fr HCP
       generalize w2.setCell ⟨U, 0, none⟩ (.slice oa n2 oc) = w3 at U3 Y3 P3 NA3 g3 s3 ⊢
       go_wp2_with fail
       go_roundw
       case rel => exact ⟨j + 1, u2, oa, n2, oc, _, _, by omega, by go_num, ⟨HU2.out.1, HU2.out.2, HN2.out, NA3⟩, ⟨hn21, hvc, by omega⟩, ⟨s3, .inr (by omega)⟩, U3, Y3, P3, g3⟩
       case measure => simp [intOf]; omega
     ·have hjm : j = m := by omega
      obtain ⟨hM, hm1, hun, hNA⟩ := HU.out
      rw [List.take_of_length_le (by have := HL.out; omega)] at hM
      have hle : k ≤ vn := by have := HLe.out u hM; omega
      have hdec : (k : Int) ≤ (vn : Int) := by omega
      have v3 := (made_valid hM hm1).2.2
      have HV3 : Hid (∀ ys, implScan (u.flat 0) ⟨#[]⟩ ⟨#[]⟩ ys → ys = slB zs) := v3
      have yr := cell_oneF Yr
      have ur := cell_oneF Ur
      have hYl := (Array.getElem?_eq_some_iff.1 Yr).1
      have hc := implScan_any (u.flat 0) ⟨#[]⟩ ⟨#[]⟩ va vn vc A B wr hAB.1 hNA
      clear v3 hM hm1 hun hNA HU HLe
      go_wp2_with fail
      refine hc.mono ?_
      rintro e w2 ⟨ys, hys, ta, tc, rfl, hO2, b2⟩
      obtain rfl := HV3.out ys hys
      have hsl : (slB zs).length = m := by simp [slB, HL.out]
      rw [hsl] at hO2 ⊢
      have s2 := b2.size
      have Q2 := prAt_ownF hO2 HL.out
      have P2 := Pr.below (b2.mono (by omega))
      have g2 := gr.trans (b2.mono (by have := gr.size; omega))
      clear hc hys hsl hO2 Pr gr b2 yr ur Ur Yr
      have hc := lwPairs_same ta m tc pa pc zs w2 w2.heap.size w1.heap.size (Nat.le_refl _) (by omega) Q2 P2
      go_wp2_with fail
      refine hc.mono ?_
      rintro e w3 ⟨rfl, b3⟩
      have g3 := g2.trans (b3.mono (by have := g2.size; omega))
      clear hc P2 Q2 g2 b3
      go_wp2_with fail
      go_ret
      exact ⟨rfl, g3⟩
   ·have hd1 : (100 : Int) < (m : Int) := by omega
    go_wp2_with fail
    go_ret
    exact ⟨rfl, g7⟩
 ·go_wp2_with fail
  go_ret
  exact ⟨rfl, by rw [← hN]; exact Below.refl _ _⟩
end Go.Proofs.Ytcjjbajmjfgbcaa
