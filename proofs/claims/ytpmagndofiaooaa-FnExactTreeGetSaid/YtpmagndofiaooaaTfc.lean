import Derived.Test.YtpmagndofiaooaaTfb
namespace Go.Proofs.Ytpmagndofiaooaa
open Go.RowKit
set_option linter.unusedVariables false
set_option linter.unusedSimpArgs false
set_option maxRecDepth 100000

/-- A slot that was found, or none, as a value. -/
def slotV : Option (ByteArray × ByteArray × Int) → Value
  | some s => .agg #[.string s.1, .string s.2.1, .int .i64 s.2.2]
  | none => .agg #[.string ByteArray.empty, .string ByteArray.empty, .int .i64 0]
/-- What find answers. -/
def FindAns (s : Option (ByteArray × ByteArray × Int)) (w : World) (e : Ending) (w' : World) : Prop := e = .returned (.tuple #[slotV s, .bool s.isSome]) ∧ Below w.heap.size w w'
theorem box_threeT {w : World} {N : Nat} {v0 v1 v2 : Value} {t : TypeId} (h : w.heap[N]? = some (.cells #[v0, v1, v2] t)) : w.cell? ⟨N, 0, none⟩ = some v0 ∧ w.cell? ⟨N, 1, none⟩ = some v1 ∧ w.cell? ⟨N, 2, none⟩ = some v2 := by
  simp [World.cell?, h]
def put3G (w : World) (N : Nat) (u0 u1 u2 : Value) : World := ((w.setCell ⟨N, 0, none⟩ u0).setCell ⟨N, 1, none⟩ u1).setCell ⟨N, 2, none⟩ u2
theorem put3G_box {w : World} {N t : Nat} {v0 v1 v2 : Value} (h : w.heap[N]? = some (.cells #[v0, v1, v2] t)) (u0 u1 u2 : Value) : (put3G w N u0 u1 u2).heap[N]? = some (.cells #[u0, u1, u2] t) := by
  have h0 := heap_setT h 0 u0
  have h1 := heap_setT h0 1 u1
  have h2 := heap_setT h1 2 u2
  unfold put3G
  simpa using h2
theorem put3G_fr (w : World) (N : Nat) (u0 u1 u2 : Value) : Fr (fun x => x = N) w (put3G w N u0 u1 u2) := ((fr_setT w N 0 u0).trans (fr_setT _ N 1 u1)).trans (fr_setT _ N 2 u2)
theorem leafSearch_any {w : World} {P : Nat → Prop} {t : T} {L : Nat} {a : Option Addr} {n c : Nat} (h : GLeaf w P t L a n c) (hs : SortT (t.keys.zip (t.vals.zip t.over))) (hn : n ≤ 1000) (key : ByteArray) : Calls Try.prog 108 #[.pointer (some ⟨L, 0, none⟩), .string key] w fun e w' => SearchAns (t.keys.zip (t.vals.zip t.over)) key w e w' := by
  obtain ⟨c0, c1⟩ := box_twoG h.box
  have hlt : L < w.heap.size := (Array.getElem?_eq_some_iff.1 h.box).1
  have hc := binSearch_any _ (asc_of_sort hs) key P a n c w h.row hn
  clear h hs
  generalize t.keys.zip (t.vals.zip t.over) = zs at *
  go_enter Try.func108, Try.ntmps108
  go_wp2_with fail
  refine hc.mono ?_
  rintro e w1 ⟨i, b, rfl, h1, h2, h3, hb⟩
  have H3 : Hid _ := h3
  have H1 : Hid _ := h1
  have H2 : Hid _ := h2
  clear hc h1 h2 h3
  go_wp2_with fail
  refine bodyPost_ret (v := .tuple #[.int .i64 i, .bool b]) (by simp [results, Try.results108, go_sem]) rfl ?_
  exact ⟨i, b, rfl, H1.out, H2.out, H3.out, hb⟩
set_option maxHeartbeats 1000000 in
theorem leafFind_any {w : World} {P : Nat → Prop} {t : T} {L : Nat} {a : Option Addr} {n c : Nat} (h : GLeaf w P t L a n c) (hs : SortT (t.keys.zip (t.vals.zip t.over))) (hn : n ≤ 1000) (key : ByteArray) : Calls Try.prog 99 #[.pointer (some ⟨L, 0, none⟩), .string key] w fun e w' => FindAns (lookT key (t.keys.zip (t.vals.zip t.over))) w e w' := by
  obtain ⟨N, hN⟩ : ∃ N, w.heap.size = N := ⟨_, rfl⟩
  have ab := (Below.refl w.heap.size w).alloc (Nat.le_refl _) (.cells #[.string ByteArray.empty, .string ByteArray.empty, .int .i64 0] 86)
  have kb := heap_alloc_new w (.cells #[.string ByteArray.empty, .string ByteArray.empty, .int .i64 0] 86)
  have z0 : (w.alloc (.cells #[.string ByteArray.empty, .string ByteArray.empty, .int .i64 0] 86)).heap.size = N + 1 := by simp [hN]
  rw [hN] at kb
  have hlt : L < w.heap.size := (Array.getElem?_eq_some_iff.1 h.box).1
  have hg0 : GLeaf (w.alloc (.cells #[.string ByteArray.empty, .string ByteArray.empty, .int .i64 0] 86)) (fun b => P b ∧ b < w.heap.size) t L a n c := by
    refine ⟨⟨h.at', hlt⟩, (ab.block L hlt).trans h.box, ⟨h.row.1, h.row.2.1, h.row.2.2.1, fun hn0 => ?_⟩, h.len⟩
    obtain ⟨b, e, hpb, hcc⟩ := h.row.2.2.2 hn0
    have hbl : b < w.heap.size := by
      obtain ⟨b', e', _, c0, _⟩ := h.row.at hn0
      rw [e] at e'
      cases e'
      exact lt_of_cellG c0
    exact ⟨b, e, ⟨hpb, hbl⟩, fun r hr => (World.cell?_of_block (w := w) (a := ⟨b, r, none⟩) (ab.block b hbl)).trans (hcc r hr)⟩
  have hc := leafSearch_any hg0 hs hn key
  have HG : Hid (GLeaf (w.alloc (.cells #[.string ByteArray.empty, .string ByteArray.empty, .int .i64 0] 86)) (fun b => P b ∧ b < w.heap.size) t L a n c) := hg0
  have HS : Hid (SortT (t.keys.zip (t.vals.zip t.over))) := hs
  obtain ⟨zs, hzs⟩ : ∃ zs, t.keys.zip (t.vals.zip t.over) = zs := ⟨_, rfl⟩
  have HZ : Hid (t.keys.zip (t.vals.zip t.over) = zs) := hzs
  rw [hzs] at hc HS ⊢
  clear h hs hg0 hzs
  go_enter Try.func99, Try.ntmps99
  go_wp2_with fail
  refine hc.mono ?_
  generalize w.alloc (.cells #[.string ByteArray.empty, .string ByteArray.empty, .int .i64 0] 86) = W0 at *
  rintro e w1 ⟨i, b, rfl, h1, h2, h3, hb⟩
  clear h3
  have kb1 := (hb.block N (by omega)).trans kb
  have hbw := ab.trans (hb.mono (by omega))
  have lN : N < w1.heap.size := (Array.getElem?_eq_some_iff.1 kb1).1
  have ff := thawT kb1
  obtain ⟨q0, q1, q2⟩ := box_threeT kb1
  cases b
  · have HNO : Hid (lookT key zs = none) := look_none (fun s hs => by
      obtain ⟨k, hk, e⟩ := List.mem_iff_getElem.1 hs
      have := h2 rfl k hk
      simpa [List.getD, hk, e] using this)
    have hbox := put3G_box kb1 (.string ByteArray.empty) (.string ByteArray.empty) (.int .i64 0)
    have hfr := put3G_fr w1 N (.string ByteArray.empty) (.string ByteArray.empty) (.int .i64 0)
    have hbel := hbw.trans (hfr.below (B := w.heap.size) (by omega) (fun g e => by omega))
    clear h1 h2 hc hb hfr
    go_wp2_with fail
    show bodyPost _ _ _ _ _ (put3G w1 N (.string ByteArray.empty) (.string ByteArray.empty) (.int .i64 0))
    obtain ⟨p0, p1, p2⟩ := box_threeT hbox
    refine bodyPost_ret (v := .tuple #[.agg #[.string ByteArray.empty, .string ByteArray.empty, .int .i64 0], .bool false]) (by simp [results, Try.results99, go_sem, p0, p1, p2]) rfl ?_
    exact ⟨by rw [HNO.out]; rfl, hbel⟩
  · obtain ⟨hi, hki⟩ := h1 rfl
    have HY : Hid (lookT key zs = some (zs.getD i (ByteArray.empty, ByteArray.empty, 0))) := look_atT HS.out hi hki
    have hrow1 : SlAt w1 (fun b => P b ∧ b < w.heap.size) a n c zs := by rw [← HZ.out]; exact HG.out.row.keep (fun b hb2 => hb.block b (by omega)) (fun b h => h)
    have hin : i < n := by rw [← hrow1.1]; exact hi
    obtain ⟨bb, rfl, hpb, d0, d1, d2⟩ := hrow1.at hin
    have hL1 := (hb.block L (by omega)).trans HG.out.box
    obtain ⟨c0, c1⟩ := box_twoG hL1
    have lL : L < w1.heap.size := (Array.getElem?_eq_some_iff.1 hL1).1
    have hbl := lt_of_cellG d0
    generalize zs.getD i (ByteArray.empty, ByteArray.empty, 0) = s at *
    obtain ⟨sk, sv, so⟩ := s
    simp only at d0 d1 d2 hki
    have hbox := put3G_box kb1 (.string sk) (.string sv) (.int .i64 so)
    have hfr := put3G_fr w1 N (.string sk) (.string sv) (.int .i64 so)
    have hbel := hbw.trans (hfr.below (B := w.heap.size) (by omega) (fun g e => by omega))
    clear h1 h2 hc hb hfr hrow1 hL1 HG hki
    go_wp2_with fail
    show bodyPost _ _ _ _ _ (put3G w1 N (.string sk) (.string sv) (.int .i64 so))
    obtain ⟨p0, p1, p2⟩ := box_threeT hbox
    refine bodyPost_ret (v := .tuple #[.agg #[.string sk, .string sv, .int .i64 so], .bool true]) (by simp [results, Try.results99, go_sem, p0, p1, p2]) rfl ?_
    exact ⟨by rw [HY.out]; rfl, hbel⟩
set_option maxHeartbeats 1000000 in
theorem toward_any {w : World} {P : Nat → Prop} {t : T} {L : Nat} {a : Option Addr} {n c : Nat} {us : Nat → Value} (h : GInner w P t L a n c us) (hn : 0 < n) (hn4 : n ≤ 1000) (hk : ∀ i k, t.kids[i]? = some k → ∃ ty v, us i = .iface ty v ∧ Obs w ty v "loop.example/s02098/impl.least" (.string k.low)) (key : ByteArray) :
    Calls Try.prog 121 #[.pointer (some ⟨L, 0, none⟩), .string key] w fun e w' => ∃ m : Nat, e = .returned (.int .i64 m) ∧ TowardIs t key m ∧ w' = w := by
  obtain ⟨c0, c1⟩ := box_twoG h.box
  have hlt : L < w.heap.size := (Array.getElem?_eq_some_iff.1 h.box).1
  have HN : Hid (n = t.kids.length) := h.len.1
  obtain ⟨b, rfl, hpb, hcc⟩ := h.row hn
  have HC : Hid (∀ i, i < n → w.cell? ⟨b, i, none⟩ = some (us i)) := hcc
  have hbl := lt_of_cellG (hcc 0 hn)
  have HK : Hid (∀ i k, t.kids[i]? = some k → ∃ ty v, us i = .iface ty v ∧ Obs w ty v "loop.example/s02098/impl.least" (.string k.low)) := hk
  clear h hcc hk
  generalize t.page = pg at *
  go_enter Try.func121, Try.ntmps121
  go_wp2_with fail
  clear c0 c1
  go_loopw [5, 13] (fun mv iv wr => ∃ (j m : Nat), j ≤ n ∧ iv = .int .i64 j ∧ mv = .int .i64 m ∧ m ≤ j ∧ Hid ((m = 0 ∨ (m < j ∧ ∃ k, t.kids[m]? = some k ∧ leTB k.low key = true)) ∧ ∀ i k, m < i → i < j → t.kids[i]? = some k → ¬ leTB k.low key = true) ∧ wr = w) (fun _ iv _ => n - (intOf iv).toNat)
  case atStart => exact ⟨0, 0, Nat.zero_le _, rfl, rfl, Nat.le_refl _, ⟨.inl rfl, fun i k h1 h2 => by omega⟩, rfl⟩
  case round =>
    obtain ⟨j, m, hj, rfl, rfl, hmj, HI, rfl⟩ := hrel
    by_cases hlt2 : j < n
    · obtain ⟨k, hki⟩ : ∃ k, t.kids[j]? = some k := ⟨_, List.getElem?_eq_getElem (by have := HN.out; omega)⟩
      obtain ⟨ty, v, hu, ha, f, r, hme, hcf, hcall⟩ := HK.out j k hki
      have d0 := HC.out j hlt2
      rw [hu] at d0
      have HKI : Hid (t.kids[j]? = some k) := hki
      obtain ⟨lw, hlw⟩ : ∃ lw, k.low = lw := ⟨_, rfl⟩
      have HLW : Hid (k.low = lw) := hlw
      rw [hlw] at hcall
      clear hu hki hlw
      obtain ⟨lb, hlb⟩ : ∃ lb, leTB lw key = lb := ⟨_, rfl⟩
      have HLB : Hid (leTB lw key = lb) := hlb
      unfold leTB at hlb
      go_wp2_with fail
      refine hcall.mono ?_
      rintro e w' ⟨rfl, rfl⟩
      cases lb
      · have HI2 : Hid ((m = 0 ∨ (m < j + 1 ∧ ∃ k, t.kids[m]? = some k ∧ leTB k.low key = true)) ∧ ∀ i k, m < i → i < j + 1 → t.kids[i]? = some k → ¬ leTB k.low key = true) := by
          refine ⟨HI.out.1.imp id (fun h => ⟨by omega, h.2⟩), fun i k2 h1 h2 h3 => ?_⟩
          by_cases hij : i = j
          · subst hij
            rw [HKI.out] at h3
            cases h3
            rw [HLW.out, HLB.out]
            simp
          · exact HI.out.2 i k2 h1 (by omega) h3
        clear HI hcall
        go_wp2_with fail
        go_roundw
        case rel => exact ⟨j + 1, m, by omega, by go_num, rfl, by omega, HI2, trivial⟩
        case measure => simp [intOf]; omega
      · have HI2 : Hid ((j = 0 ∨ (j < j + 1 ∧ ∃ k, t.kids[j]? = some k ∧ leTB k.low key = true)) ∧ ∀ i k, j < i → i < j + 1 → t.kids[i]? = some k → ¬ leTB k.low key = true) :=
          ⟨.inr ⟨by omega, k, HKI.out, by rw [HLW.out, HLB.out]⟩, fun i k2 h1 h2 h3 => by omega⟩
        clear HI hcall
        go_wp2_with fail
        go_roundw
        case rel => exact ⟨j + 1, j, by omega, by go_num, rfl, by omega, HI2, trivial⟩
        case measure => simp [intOf]; omega
    · have HF : Hid (TowardIs t key m) := by
        have hl := HN.out
        refine ⟨by rcases HI.out.1 with h | h <;> omega, HI.out.1.imp id (fun h => h.2), fun i k h1 h3 => ?_⟩
        have hi := (List.getElem?_eq_some_iff.1 h3).1
        exact HI.out.2 i k h1 (by omega) h3
      clear HI
      go_wp2_with fail
      go_ret
      exact ⟨m, rfl, HF.out, rfl⟩
/-- What find answers at a node, at every world that leaves the node as it is. -/
def FObs (base : Nat) (w : World) (key : ByteArray) (s : Option (ByteArray × ByteArray × Int)) (ty : TypeId) (v : Value) : Prop :=
  (∀ w, (nilAhead 259 ty v "loop.example/s02098/impl.find").run Try.prog w = .ok (some false) w) ∧ ∃ f r, (∀ w, (method 259 ty v "loop.example/s02098/impl.find").run Try.prog w = .ok (f, r) w) ∧ (∀ w, (callFunc f #[r, .string key]).run Try.prog w = .ok (.enter f #[r, .string key]) w) ∧ ∀ w', Below base w w' → base ≤ w'.heap.size → Calls Try.prog f #[r, .string key] w' fun e w2 => FindAns s w' e w2
end Go.Proofs.Ytpmagndofiaooaa
