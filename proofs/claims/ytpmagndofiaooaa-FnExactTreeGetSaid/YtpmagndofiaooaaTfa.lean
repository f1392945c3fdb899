import Derived.Test.YtpmagndofiaooaaTgh
import Derived.Sort.Walk0
import Derived.Laws.Cover1
namespace Go.Proofs.Ytpmagndofiaooaa
open Go.RowKit
set_option linter.unusedVariables false
set_option linter.unusedSimpArgs false
set_option maxRecDepth 100000

theorem less_iff (a b : ByteArray) : lessB a b = true ↔ a.toList < b.toList := by
  unfold lessB
  rw [bytesLess_eq, decide_eq_true_eq]
theorem less_trans {a b c : ByteArray} (h1 : lessB a b = true) (h2 : lessB b c = true) : lessB a c = true := by
  rw [less_iff] at h1 h2 ⊢
  exact List.lt_trans h1 h2
theorem less_irrefl (a : ByteArray) : ¬ lessB a a = true := by
  rw [less_iff]
  exact List.lt_irrefl _
theorem less_tri {a b : ByteArray} (h1 : ¬ lessB a b = true) (h2 : ¬ lessB b a = true) : a = b := by
  rw [less_iff] at h1 h2
  exact listG_inj (List.le_antisymm h2 h1)
theorem asc_pair {l : List ByteArray} {n : Nat} (h : ascTo l n) : ∀ d i, i + d + 1 < n → lessB (l.getD i ByteArray.empty) (l.getD (i + d + 1) ByteArray.empty) = true
  | 0, i, hi => h i hi
  | d + 1, i, hi => less_trans (asc_pair h d i (by omega)) (h (i + d + 1) (by omega))
theorem asc_lt {l : List ByteArray} {n i k : Nat} (h : ascTo l n) (hik : i < k) (hk : k < n) : lessB (l.getD i ByteArray.empty) (l.getD k ByteArray.empty) = true := by
  have := asc_pair h (k - i - 1) i (by omega)
  rwa [show i + (k - i - 1) + 1 = k by omega] at this
def cmpT (x y : ByteArray) : Int := if lessB x y = true then -1 else if lessB y x = true then 1 else 0
theorem cmpStrT_any (x y : ByteArray) (W : World) : Calls Try.prog 111 #[.string x, .string y] W fun e w' => e = .returned (.int .i64 (cmpT x y)) ∧ w' = W := by
  have n1 : (x.toList == x.toList) = true := by simp
  have n2 : (y.toList == y.toList) = true := by simp
  cases h1 : Op.bytesLess x.toList y.toList with
  | true =>
    have H : Hid (cmpT x y = -1) := by show _ = _; simp [cmpT, lessB, h1]
    go_enter Try.func111, Try.ntmps111
    go_wp2
    go_ret
    exact ⟨by rw [H.out]; rfl, rfl⟩
  | false =>
    cases h2 : Op.bytesLess y.toList x.toList with
    | true =>
      have H : Hid (cmpT x y = 1) := by show _ = _; simp [cmpT, lessB, h1, h2]
      have h3 : (x.toList == y.toList) = false := by
        rw [bytesLess_eq] at h2
        have h2' := of_decide_eq_true h2
        rw [beq_eq_false_iff_ne]
        intro e; rw [e] at h2'; exact List.lt_irrefl _ h2'
      go_enter Try.func111, Try.ntmps111
      go_wp2
      go_ret
      exact ⟨by rw [H.out]; rfl, rfl⟩
    | false =>
      have H : Hid (cmpT x y = 0) := by show _ = _; simp [cmpT, lessB, h1, h2]
      have h3 : (x.toList == y.toList) = true := by
        rw [bytesLess_eq] at h1 h2
        have h1' := of_decide_eq_false h1
        have h2' := of_decide_eq_false h2
        rw [beq_iff_eq]
        exact List.le_antisymm h2' h1'
      go_enter Try.func111, Try.ntmps111
      go_wp2
      go_ret
      exact ⟨by rw [H.out]; rfl, rfl⟩
theorem searchC_any (k v : ByteArray) (o : Int) (key : ByteArray) (w : World) : Calls Try.prog 110 #[.agg #[.string k, .string v, .int .i64 o], .string key] w fun e w' => e = .returned (.int .i64 (cmpT k key)) ∧ Below w.heap.size w w' := by
  have ab := (Below.refl w.heap.size w).alloc (Nat.le_refl _) (.cells #[.string k, .string v, .int .i64 o] 86)
  have hc := fun W => cmpStrT_any k key W
  generalize cmpT k key = cv at hc ⊢
  go_enter Try.func110, Try.ntmps110
  go_wp2_with fail
  refine (hc _).mono ?_
  rintro e w' ⟨rfl, rfl⟩
  go_wp2_with fail
  go_ret
  exact ⟨rfl, ab⟩
/-- Where a key belongs. -/
def PosIs (zs : List (ByteArray × ByteArray × Int)) (key : ByteArray) (i : Nat) : Prop := i ≤ zs.length ∧ (∀ k, k < i → lessB (zs.getD k (ByteArray.empty, ByteArray.empty, 0)).1 key = true) ∧ ∀ k, i ≤ k → k < zs.length → ¬ lessB (zs.getD k (ByteArray.empty, ByteArray.empty, 0)).1 key = true
/-- What a search says. -/
def SearchAns (zs : List (ByteArray × ByteArray × Int)) (key : ByteArray) (w : World) (e : Ending) (w' : World) : Prop :=
  ∃ (i : Nat) (b : Bool), e = .returned (.tuple #[.int .i64 i, .bool b]) ∧ (b = true → i < zs.length ∧ (zs.getD i (ByteArray.empty, ByteArray.empty, 0)).1 = key) ∧ (b = false → ∀ k, k < zs.length → (zs.getD k (ByteArray.empty, ByteArray.empty, 0)).1 ≠ key) ∧ PosIs zs key i ∧ Below w.heap.size w w'
theorem SlAt.at {w : World} {P : Nat → Prop} {a : Option Addr} {n c : Nat} {zs : List (ByteArray × ByteArray × Int)} (h : SlAt w P a n c zs) {j : Nat} (hj : j < n) : ∃ b, a = some ⟨b, 0, none⟩ ∧ P b ∧ w.cell? ⟨b, j * 3, none⟩ = some (.string (zs.getD j (ByteArray.empty, ByteArray.empty, 0)).1) ∧ w.cell? ⟨b, j * 3 + 1, none⟩ = some (.string (zs.getD j (ByteArray.empty, ByteArray.empty, 0)).2.1) ∧ w.cell? ⟨b, j * 3 + 2, none⟩ = some (.int .i64 (zs.getD j (ByteArray.empty, ByteArray.empty, 0)).2.2) := by
  obtain ⟨h1, h2, h3, h4⟩ := h
  obtain ⟨b, e, hb, hc⟩ := h4 (by omega)
  have hcc : ∀ r, r < 3 → w.cell? ⟨b, j * 3 + r, none⟩ = (slCells (zs.getD j (ByteArray.empty, ByteArray.empty, 0)))[r]? := fun r hr => by
    rw [hc (j * 3 + r) (by omega)]
    exact rowsOf_get sl3 _ zs j r (by omega) hr
  exact ⟨b, e, hb, by simpa [slCells] using hcc 0 (by omega), by simpa [slCells] using hcc 1 (by omega), by simpa [slCells] using hcc 2 (by omega)⟩
set_option maxHeartbeats 4000000 in
theorem binSearch_any (zs : List (ByteArray × ByteArray × Int)) (hasc : ascTo (zs.map (fun s => s.1)) zs.length) (key : ByteArray) (P : Nat → Prop) (a : Option Addr) (n c : Nat) (w : World) (h : SlAt w P a n c zs) (hn : n ≤ 1000) :
    Calls Try.prog 109 #[.slice a n c, .string key, .func (.func 110) #[] #[]] w fun e w' => SearchAns zs key w e w' := by
  have HL : Hid (zs.length = n) := h.1
  have HC : Hid (∀ wr, Below w.heap.size w wr → ∀ j, j < n → ∃ b, a = some ⟨b, 0, none⟩ ∧ b < wr.heap.size ∧ wr.cell? ⟨b, j * 3, none⟩ = some (.string (zs.getD j (ByteArray.empty, ByteArray.empty, 0)).1) ∧ wr.cell? ⟨b, j * 3 + 1, none⟩ = some (.string (zs.getD j (ByteArray.empty, ByteArray.empty, 0)).2.1) ∧ wr.cell? ⟨b, j * 3 + 2, none⟩ = some (.int .i64 (zs.getD j (ByteArray.empty, ByteArray.empty, 0)).2.2)) := fun wr hb j hj => by
    obtain ⟨b, e, _, c0, c1, c2⟩ := h.at hj
    have hbl := lt_of_cellG c0
    have hk := hb.block b hbl
    exact ⟨b, e, Nat.lt_of_lt_of_le hbl hb.size, (World.cell?_of_block (w := w) (a := ⟨b, j * 3, none⟩) hk).trans c0, (World.cell?_of_block (w := w) (a := ⟨b, j * 3 + 1, none⟩) hk).trans c1, (World.cell?_of_block (w := w) (a := ⟨b, j * 3 + 2, none⟩) hk).trans c2⟩
  have HASC : Hid (∀ i k, i < k → k < n → lessB (zs.getD i (ByteArray.empty, ByteArray.empty, 0)).1 (zs.getD k (ByteArray.empty, ByteArray.empty, 0)).1 = true) := fun i k hik hk => by
    have := asc_lt hasc hik (by have := HL.out; omega)
    have hl := HL.out
    simpa [List.getD, show i < zs.length by omega, show k < zs.length by omega] using this
  clear h hasc
  go_enter Try.func109, Try.ntmps109
  go_wp2_with fail
  go_loopw [9, 10] (fun iv jv wr => ∃ (i j : Nat), i ≤ j ∧ j ≤ n ∧ iv = .int .i64 i ∧ jv = .int .i64 j ∧ Hid ((∀ k, k < i → lessB (zs.getD k (ByteArray.empty, ByteArray.empty, 0)).1 key = true) ∧ (∀ k, j ≤ k → k < n → ¬ lessB (zs.getD k (ByteArray.empty, ByteArray.empty, 0)).1 key = true)) ∧ Below w.heap.size w wr) (fun iv jv _ => (intOf jv).toNat - (intOf iv).toNat)
  case atStart => exact ⟨0, n, Nat.zero_le _, Nat.le_refl _, rfl, rfl, ⟨fun k hk => by omega, fun k h1 h2 => by omega⟩, Below.refl _ _⟩
  case round =>
    obtain ⟨i, j, hij, hjn, rfl, rfl, HI, hbel⟩ := hrel
    by_cases hlt : i < j
    · obtain ⟨hh, hhh⟩ : ∃ hh, (i + j) / 2 = hh := ⟨_, rfl⟩
      have h1 : i ≤ hh ∧ hh < j := by omega
      obtain ⟨b, rfl, hbl, c0, c1, c2⟩ := HC.out wr hbel hh (by omega)
      have hcast : ((i : Int) + (j : Int)) / 2 = (hh : Int) := by omega
      have HP : Hid (∀ b, lessB (zs.getD hh (ByteArray.empty, ByteArray.empty, 0)).1 key = b → (b = true → (∀ k, k < hh + 1 → lessB (zs.getD k (ByteArray.empty, ByteArray.empty, 0)).1 key = true) ∧ (∀ k, j ≤ k → k < n → ¬ lessB (zs.getD k (ByteArray.empty, ByteArray.empty, 0)).1 key = true)) ∧ (b = false → (∀ k, k < i → lessB (zs.getD k (ByteArray.empty, ByteArray.empty, 0)).1 key = true) ∧ (∀ k, hh ≤ k → k < n → ¬ lessB (zs.getD k (ByteArray.empty, ByteArray.empty, 0)).1 key = true))) := by
        intro b0 hb0
        constructor
        · rintro rfl
          refine ⟨fun k hk => ?_, HI.out.2⟩
          by_cases hkh : k = hh
          · rw [hkh]; exact hb0
          · exact less_trans (HASC.out k hh (by omega) (by omega)) hb0
        · rintro rfl
          refine ⟨HI.out.1, fun k hk1 hk2 hle => ?_⟩
          by_cases hkh : k = hh
          · rw [hkh, hb0] at hle; cases hle
          · have := less_trans (HASC.out hh k (by omega) hk2) hle
            rw [hb0] at this
            cases this
      have hcm := fun W => searchC_any (zs.getD hh (ByteArray.empty, ByteArray.empty, 0)).1 (zs.getD hh (ByteArray.empty, ByteArray.empty, 0)).2.1 (zs.getD hh (ByteArray.empty, ByteArray.empty, 0)).2.2 key W
      generalize (zs.getD hh (ByteArray.empty, ByteArray.empty, 0)).2.1 = sv at *
      generalize (zs.getD hh (ByteArray.empty, ByteArray.empty, 0)).2.2 = so at *
      obtain ⟨sk, hsk⟩ : ∃ sk, (zs.getD hh (ByteArray.empty, ByteArray.empty, 0)).1 = sk := ⟨_, rfl⟩
      rw [hsk] at c0 hcm HP
      clear hsk
      obtain ⟨lb, hlb⟩ : ∃ lb, lessB sk key = lb := ⟨_, rfl⟩
      have hP1 := HP.out lb hlb
      have HCV : Hid (cmpT sk key < 0 ↔ lb = true) := by
        show _ ↔ _
        unfold cmpT
        rw [hlb]
        cases lb
        · simp only [Bool.false_eq_true, if_false, iff_false]
          split <;> omega
        · simp
      generalize cmpT sk key = cv at hcm HCV
      clear HP hlb HI hhh
      go_wp2_with fail
      refine (hcm _).mono ?_
      rintro e w1 ⟨rfl, hb1⟩
      have hbel2 := hbel.trans (hb1.mono hbel.size)
      clear c0 c1 c2 hcm hb1 hbel
      cases lb
      · have hcv : ¬ cv < 0 := by rw [HCV.out]; simp
        have HI2 : Hid _ := hP1.2 rfl
        clear hP1 HCV
        go_wp2_with fail
        go_roundw
        case rel => exact ⟨i, hh, by omega, by omega, rfl, rfl, HI2, hbel2⟩
        case measure => simp [intOf]; omega
      · have hcv : cv < 0 := by rw [HCV.out]
        have HI2 : Hid _ := hP1.1 rfl
        clear hP1 HCV
        go_wp2_with fail
        go_roundw
        case rel => exact ⟨hh + 1, j, by omega, hjn, by go_num, rfl, HI2, hbel2⟩
        case measure => simp [intOf]; omega
    · have hije : i = j := by omega
      subst hije
      have HPO : Hid (PosIs zs key i) := ⟨by have := HL.out; omega, HI.out.1, fun k h1 h2 => HI.out.2 k h1 (by have := HL.out; omega)⟩
      by_cases hin : i < n
      · obtain ⟨b, rfl, hbl, c0, c1, c2⟩ := HC.out wr hbel i hin
        have hcm := fun W => searchC_any (zs.getD i (ByteArray.empty, ByteArray.empty, 0)).1 (zs.getD i (ByteArray.empty, ByteArray.empty, 0)).2.1 (zs.getD i (ByteArray.empty, ByteArray.empty, 0)).2.2 key W
        have HE : Hid ((cmpT (zs.getD i (ByteArray.empty, ByteArray.empty, 0)).1 key = 0 → i < zs.length ∧ (zs.getD i (ByteArray.empty, ByteArray.empty, 0)).1 = key) ∧ (¬ cmpT (zs.getD i (ByteArray.empty, ByteArray.empty, 0)).1 key = 0 → ∀ k, k < zs.length → (zs.getD k (ByteArray.empty, ByteArray.empty, 0)).1 ≠ key)) := by
          have hnl := HI.out.2 i (Nat.le_refl _) hin
          have hlen := HL.out
          constructor
          · intro h0
            refine ⟨by omega, ?_⟩
            unfold cmpT at h0
            rw [if_neg hnl] at h0
            by_cases h2 : lessB key (zs.getD i (ByteArray.empty, ByteArray.empty, 0)).1 = true
            · rw [if_pos h2] at h0; omega
            · exact less_tri hnl h2
          · intro h0 k hk e
            by_cases hki : k < i
            · have := HI.out.1 k hki
              rw [e] at this
              exact less_irrefl _ this
            · by_cases hke : k = i
              · rw [hke] at e
                apply h0
                rw [e]
                unfold cmpT
                rw [if_neg (less_irrefl _), if_neg (less_irrefl _)]
              · have h3 := HASC.out i k (by omega) (by omega)
                rw [e] at h3
                exact hnl h3
        generalize (zs.getD i (ByteArray.empty, ByteArray.empty, 0)).2.1 = sv at *
        generalize (zs.getD i (ByteArray.empty, ByteArray.empty, 0)).2.2 = so at *
        obtain ⟨sk, hsk⟩ : ∃ sk, (zs.getD i (ByteArray.empty, ByteArray.empty, 0)).1 = sk := ⟨_, rfl⟩
        rw [hsk] at c0 hcm
        have HSK : Hid ((zs.getD i (ByteArray.empty, ByteArray.empty, 0)).1 = sk) := hsk
        clear hsk
        obtain ⟨cv, hcv⟩ : ∃ cv, cmpT sk key = cv := ⟨_, rfl⟩
        rw [HSK.out, hcv] at HE
        have hcm2 : ∀ W : World, Calls Try.prog 110 #[.agg #[.string sk, .string sv, .int .i64 so], .string key] W fun e w' => e = .returned (.int .i64 cv) ∧ Below W.heap.size W w' := fun W => by rw [← hcv]; exact hcm W
        clear hcm hcv HI
        go_wp2_with fail
        refine (hcm2 _).mono ?_
        rintro e w1 ⟨rfl, hb1⟩
        have hbel2 := hbel.trans (hb1.mono hbel.size)
        clear c0 c1 c2 hcm2 hb1 hbel
        obtain ⟨rb, hrb⟩ : ∃ rb, (cv == 0) = rb := ⟨_, rfl⟩
        have HRB : Hid ((cv == 0) = rb) := hrb
        go_wp2_with fail
        refine bodyPost_ret (v := .tuple #[.int .i64 i, .bool rb]) (by simp [results, Try.results109, go_sem]) rfl ?_
        refine ⟨i, rb, rfl, fun h => ?_, fun h => ?_, HPO.out, hbel2⟩
        · have := HE.out.1 (by have := HRB.out; rw [h] at this; simpa using this)
          exact ⟨this.1, by rw [HSK.out]; exact this.2⟩
        · exact HE.out.2 (by have := HRB.out; rw [h] at this; simpa using this)
      · have HNO : Hid (∀ k, k < zs.length → (zs.getD k (ByteArray.empty, ByteArray.empty, 0)).1 ≠ key) := fun k hk e => by
          have hl := HL.out
          have := HI.out.1 k (by omega)
          rw [e] at this
          exact less_irrefl _ this
        clear HI
        go_wp2_with fail
        refine bodyPost_ret (v := .tuple #[.int .i64 i, .bool false]) (by simp [results, Try.results109, go_sem]) rfl ?_
        exact ⟨i, false, rfl, (fun h => by cases h), fun _ => HNO.out, HPO.out, hbel⟩
end Go.Proofs.Ytpmagndofiaooaa
