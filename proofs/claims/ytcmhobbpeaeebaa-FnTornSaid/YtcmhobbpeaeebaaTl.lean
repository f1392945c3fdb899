import Derived.Test.YtcmhobbpeaeebaaGAO
import Derived.Test.YtcmhobbpeaeebaaGBN
import Derived.Test.YtcmhobbpeaeebaaGBP
import Derived.BigQuiet
namespace Go.Proofs.Ytcmhobbpeaeebaa
open Go.RowKit
set_option linter.unusedVariables false
set_option maxRecDepth 100000

theorem box_tenW {w : World} {N : Nat} {v0 v1 v2 v3 v4 v5 v6 v7 v8 v9 : Value} {t : TypeId} (h : w.heap[N]? = some (.cells #[v0, v1, v2, v3, v4, v5, v6, v7, v8, v9] t)) : w.cell? ⟨N, 0, none⟩ = some v0 := by simp [World.cell?, h]
theorem DPg.rows {w : World} {T m : Nat} {Φ : Pg → Prop} {v : Value} (h : DPg w T m Φ v) : ∃ (p : Pg) (ka : Option Addr) (kc : Nat) (ea : Option Addr) (ec : Nat), v = .agg #[.int .i64 p.kind, .int .i64 p.tx, .int .i64 p.id, .int .i64 p.root, .int .i64 p.count, .slice ka p.ks.length kc, .slice ea p.es.length ec, .int .i64 p.next, .string p.data] ∧ PgFit p ∧ KidsAt w T w.heap.size ka p.ks.length kc p.ks ∧ EntsAt w T w.heap.size ea p.es.length ec p.es := by
  obtain ⟨p, ka, kc, ea, ec, rfl, hf, hk, he, hkf, hef, hO, hP, hap, hlo⟩ := h
  obtain ⟨_, _, e2, hK2⟩ := RowsAt.of_owns kc2 hO rfl (New.getD_fit hkf dK)
  cases e2
  obtain ⟨_, _, e2, hE2⟩ := RowsAt.of_owns ec4 hP rfl (New.getD_fit hef dE)
  cases e2
  exact ⟨p, ka, kc, ea, ec, rfl, hf, hK2, hE2⟩
set_option maxHeartbeats 3200000 in
theorem law_Torn (a : Option Addr) (n c : Nat) (bs : List Int) (a2 : Option Addr) (n2 c2 : Nat) (bs2 : List Int) (w : World) (h : BytesAt w 0 w.heap.size a n c bs) (h2 : BytesAt w 0 w.heap.size a2 n2 c2 bs2) :
    Calls Try.prog 3 #[.slice a n c, .slice a2 n2 c2] w fun e w' => e = .returned (.bool true) ∧ Below w.heap.size w w' := by
  have hcm := h.2.2.1
  have hnc := h.2.1
  have hcm2 := h2.2.2.1
  have hnc2 := h2.2.1
  unfold maxLen at hcm hcm2
  go_enter Try.func3, Try.ntmps3
  by_cases hn : n ≤ 1048576
  · by_cases hn2 : n2 ≤ 1048576
    · go_wp2_with fail
      refine (drawEncodePage_any a n c bs w 0 w.heap.size (Nat.le_refl _) h).mono ?_
      rintro e w1 ⟨v, rfl, hv1, b1⟩
      obtain ⟨p, ka, kc, ea, ec, rfl, hf, hK1, hE1⟩ := hv1.rows
      clear hv1
      go_wp2_with fail
      have X2 := heap_alloc_new w1 (.cells #[.int .i64 p.kind, .int .i64 p.tx, .int .i64 p.id, .int .i64 p.root, .int .i64 p.count, .slice ka p.ks.length kc, .slice ea p.es.length ec, .int .i64 p.next, .string p.data] 28)
      have hal : Below w1.heap.size w1 (w1.alloc (.cells #[.int .i64 p.kind, .int .i64 p.tx, .int .i64 p.id, .int .i64 p.root, .int .i64 p.count, .slice ka p.ks.length kc, .slice ea p.es.length ec, .int .i64 p.next, .string p.data] 28)) := (Below.refl _ _).alloc (Nat.le_refl _) _
      generalize w1.alloc (.cells #[.int .i64 p.kind, .int .i64 p.tx, .int .i64 p.id, .int .i64 p.root, .int .i64 p.count, .slice ka p.ks.length kc, .slice ea p.es.length ec, .int .i64 p.next, .string p.data] 28) = w2 at X2 hal ⊢
      have b2 := b1.trans (hal.mono b1.size)
      have hK2 := hK1.below hal
      have hE2 := hE1.below hal
      have hP2 : w1.heap.size < w2.heap.size := (Array.getElem?_eq_some_iff.1 X2).1
      clear hK1 hE1 hal
      have hs1 := b1.size
      clear b1
      generalize w1.heap.size = P at X2 hK2 hE2 hP2 hs1 ⊢
      refine (drawEncodePage_any a2 n2 c2 bs2 w2 0 w.heap.size b2.size (h2.below b2)).mono ?_
      rintro e w3 ⟨v, rfl, hv3, hb3⟩
      have b3 := b2.trans (hb3.mono b2.size)
      have X3 := (hb3.block P hP2).trans X2
      have hK3 := hK2.below (hb3.mono (by omega))
      have hE3 := hE2.below (hb3.mono (by omega))
      have hs3 := hb3.size
      obtain ⟨q, kaq, kcq, eaq, ecq, rfl, hf2, hK32, hE32⟩ := hv3.rows
      clear hv3 hb3 X2 hK2 hE2 b2
      obtain ⟨p0, p1, p2, p3, p4, p5, p6, p7, p8⟩ := box_page X3
      have hPl3 : P < w3.heap.size := by omega
      go_wp2_with fail
      have Y4 := heap_alloc_new w3 (.cells #[.int .i64 q.kind, .int .i64 q.tx, .int .i64 q.id, .int .i64 q.root, .int .i64 q.count, .slice kaq q.ks.length kcq, .slice eaq q.es.length ecq, .int .i64 q.next, .string q.data] 28)
      have hal : Below w3.heap.size w3 (w3.alloc (.cells #[.int .i64 q.kind, .int .i64 q.tx, .int .i64 q.id, .int .i64 q.root, .int .i64 q.count, .slice kaq q.ks.length kcq, .slice eaq q.es.length ecq, .int .i64 q.next, .string q.data] 28)) := (Below.refl _ _).alloc (Nat.le_refl _) _
      have b4 := b3.trans (hal.mono b3.size)
      have X4 := (hal.block P (by omega)).trans X3
      have hK4 := hK3.below (hal.mono (by omega))
      have hE4 := hE3.below (hal.mono (by omega))
      have hK42 := hK32.below hal
      have hE42 := hE32.below hal
      have hQ4 : w3.heap.size < (w3.alloc (.cells #[.int .i64 q.kind, .int .i64 q.tx, .int .i64 q.id, .int .i64 q.root, .int .i64 q.count, .slice kaq q.ks.length kcq, .slice eaq q.es.length ecq, .int .i64 q.next, .string q.data] 28)).heap.size := (Array.getElem?_eq_some_iff.1 Y4).1
      have hs3' : w.heap.size ≤ w3.heap.size := b3.size
      generalize w3.alloc (.cells #[.int .i64 q.kind, .int .i64 q.tx, .int .i64 q.id, .int .i64 q.root, .int .i64 q.count, .slice kaq q.ks.length kcq, .slice eaq q.es.length ecq, .int .i64 q.next, .string q.data] 28) = w4 at Y4 hal b4 X4 hK4 hE4 hK42 hE42 hQ4 ⊢
      clear hK3 hE3 hK32 hE32 X3 b3 hal p0 p1 p2 p3 p4 p5 p6 p7 p8
      generalize w3.heap.size = N3 at Y4 hK42 hE42 hQ4 hs3 hs3' hPl3 ⊢
      refine (specEncodePage_any p hf hf.tx ka kc ea ec w4 _ P (by omega) hK4 hE4).mono ?_
      rintro e w5 ⟨v5, rfl, hO5, hb5⟩
      have b5 := b4.trans (hb5.mono b4.size)
      have X5 := (hb5.block P (by omega)).trans X4
      have Y5 := (hb5.block N3 hQ4).trans Y4
      have hK5 := hK42.below (hb5.mono (by omega))
      have hE5 := hE42.below (hb5.mono (by omega))
      have hs5 := hb5.size
      clear b4 X4 Y4 hK4 hE4 hK42 hE42 hb5
      obtain ⟨q0, q1, q2, q3, q4, q5, q6, q7, q8⟩ := box_page Y5
      go_wp2_with fail
      clear q0 q1 q2 q3 q4 q5 q6 q7 q8
      refine (specEncodePage_any q hf2 hf2.tx kaq kcq eaq ecq w5 _ N3 (by omega) hK5 hE5).mono ?_
      rintro e w6 ⟨v6, rfl, hO6, hb6⟩
      have b6 := b5.trans (hb6.mono b5.size)
      have X6 := (hb6.block P (by omega)).trans X5
      have Y6 := (hb6.block N3 (by omega)).trans Y5
      have hs6 := hb6.size
      have hO56 := owns_below hO5 hb6
      clear b5 X5 Y5 hK5 hE5 hb6 hO5
      obtain ⟨q0, q1, q2, q3, q4, q5, q6, q7, q8⟩ := box_page Y6
      obtain ⟨p0, p1, p2, p3, p4, p5, p6, p7, p8⟩ := box_page X6
      clear X6 Y6
      have hba := codeN_byte p
      have hbb := codeN_byte q
      have HT := fun (hp : newCodeOf p ≠ []) (hq : newCodeOf q ≠ []) (hne : p.tx ≠ q.tx) (k : Nat) (hk : k ≤ 128) => New.torn hp hq hne k hk
      by_cases hpe : newCodeOf p = []
      · rw [hpe] at hO56
        obtain ⟨a5, c5, rfl⟩ := own_shape hO56
        obtain ⟨a6, c6, rfl⟩ := own_shape hO6
        clear hO56 hO6
        have hl0 : (([] : List Int).length : Int) = 0 := rfl
        go_wp2
        go_ret
        exact ⟨rfl, b6⟩
      · have hlp := (New.code_ends hpe).1
        have hpe' : ¬ ((128 : Nat) : Int) = 0 := by omega
        rw [hlp] at hO56
        obtain ⟨a5, c5, rfl⟩ := own_shape hO56
        by_cases hqe : newCodeOf q = []
        · rw [hqe] at hO6
          obtain ⟨a6, c6, rfl⟩ := own_shape hO6
          clear hO56 hO6 HT
          have hl0 : (([] : List Int).length : Int) = 0 := rfl
          go_wp2
          go_ret
          exact ⟨rfl, b6⟩
        · have hlq := (New.code_ends hqe).1
          rw [hlq] at hO6
          obtain ⟨a6, c6, rfl⟩ := own_shape hO6
          by_cases htx : p.tx = q.tx
          · have htx' : (p.tx == q.tx) = true := by simp [htx]
            clear hO56 hO6 HT
            go_wp2
            go_ret
            exact ⟨rfl, b6⟩
          · have htx' : (p.tx == q.tx) = false := by simp [htx]
            have HT2 : Hid (∀ k, k ≤ 128 → (newCodeOf (New.decP ((newCodeOf q).take k ++ (newCodeOf p).drop k)) = (newCodeOf q).take k ++ (newCodeOf p).drop k ↔ ((newCodeOf q).take k ++ (newCodeOf p).drop k = newCodeOf p ∨ (newCodeOf q).take k ++ (newCodeOf p).drop k = newCodeOf q))) := fun k hk => HT hpe hqe htx k hk
            clear HT
            obtain ⟨g5, rfl⟩ := owns_someD hO56 (by omega)
            obtain ⟨g6, rfl⟩ := owns_someD hO6 (by omega)
            have hA6 := bytesAt_row hO56 hba
            have hB6 := bytesAt_row hO6 hbb
            generalize newCodeOf p = la at hA6 hba hlp HT2
            generalize newCodeOf q = lb at hB6 hbb hlq HT2
            clear hpe hqe hO56 hO6
            go_wp2_with fail
            have hs66 : w.heap.size ≤ w6.heap.size := b6.size
            clear p0 p1 p2 p3 p4 p5 p6 p7 p8 q0 q1 q2 q3 q4 q5 q6 q7 q8
            go_loopw [9] (fun i wr => ∃ k : Nat, k ≤ 129 ∧ i = .int .i64 k ∧ Below w.heap.size w wr ∧ w6.heap.size ≤ wr.heap.size ∧ BytesAt wr w4.heap.size w6.heap.size (some ⟨g5, 0, none⟩) 128 c5 la ∧ BytesAt wr w5.heap.size w6.heap.size (some ⟨g6, 0, none⟩) 128 c6 lb) (fun i _ => 129 - (intOf i).toNat)
            case atStart => exact ⟨0, by omega, rfl, b6, Nat.le_refl _, hA6, hB6⟩
            case round =>
              clear hA6 hB6 b6
              obtain ⟨k, hk, rfl, br, hsr, hA, hB⟩ := hrel
              by_cases hlt : k ≤ 128
              · have hc5 := hA.2.1
                have hc6 := hB.2.1
                have hc5m := hA.2.2.1
                have hc6m := hB.2.2.1
                unfold maxLen at hc5m hc6m
                have hAk : ∀ (hck : c5 ≠ k), BytesAt wr w4.heap.size w6.heap.size (some ⟨g5, k, none⟩) (128 - k) (c5 - k) (la.drop k) := fun hck => by
                  have := bytesAt_sub hA k (128 - k) (by omega) (by omega)
                  rw [List.take_of_length_le (by rw [List.length_drop]; omega), Nat.zero_add] at this
                  exact this
                have hAz : ∀ (hck : c5 = k), BytesAt wr w4.heap.size w6.heap.size (some ⟨g5, 0, none⟩) (128 - k) 0 (la.drop k) := fun hck => by
                  have hk8 : k = 128 := by omega
                  rw [hk8, List.drop_eq_nil_of_le (by omega)]
                  exact bytesAt_none _ 0 (Nat.zero_le _)
                have hBk : BytesAt wr w5.heap.size w6.heap.size (some ⟨g6, 0, none⟩) k c6 (lb.take k) := by
                  have := bytesAt_sub hB 0 k (by omega) (by omega)
                  simpa using this
                have hb2 : Below wr.heap.size wr (wr.drew.alloc (.cells #[] 5)) := (Below.refl _ _).drew.alloc (Nat.le_refl _) _
                have hR2 : (wr.drew.alloc (.cells #[] 5)).ownsRow wr.heap.size 5 1 (.slice (some ⟨wr.heap.size, 0, none⟩) 0 0) 0 (u8s []) := by
                  have := World.ownsRow_made wr.drew #[] (base := wr.heap.size) (e := 5) (size := 1) 0 (by simp) (by unfold maxLen; omega) (by simp)
                  simpa [u8s] using this
                have hk6 : k ≤ c6 := by omega
                have HAr : Hid (BytesAt wr w4.heap.size w6.heap.size (some ⟨g5, 0, none⟩) 128 c5 la) := hA
                have HBr : Hid (BytesAt wr w5.heap.size w6.heap.size (some ⟨g6, 0, none⟩) 128 c6 lb) := hB
                by_cases hck : c5 = k
                · replace hAk := hAz hck
                  have hck2 : k = c5 := hck.symm
                  clear hck
                  subst hck2
                  clear hAz hA hB
                  go_wp2_with fail
                  go_region_law (first
                    | (refine step_ab rfl _ _ rfl wr.heap.size _ k (lb.take k) (by simp [Act.eval]) hO4 (some ⟨g5, 0, none⟩) (128 - k) 0 (la.drop k) _ _ (by simp [Act.eval] <;> omega) (hAk.below (hb4.mono hsr)) (by omega) hb4.size ?_; intro v8 w8 hO8 hg8; have hO9 : w8.ownsRow wr.heap.size 5 1 v8 128 (u8s (lb.take k ++ la.drop k)) := (by have e : k + (128 - k) = 128 := (by omega); rw [e] at hO8; exact hO8); obtain ⟨a8, c8, rfl⟩ := own_shape hO9; have hb8 := hb4.grown hg8 hb4.size (fun g e => (hO4.lt g e).1); clear hO8 hg8)
                    | (refine step_ab rfl _ _ rfl wr.heap.size _ 0 [] (by simp [Act.eval]) hR2 (some ⟨g6, 0, none⟩) k c6 (lb.take k) _ _ (by simp [Act.eval]) (hBk.below (hb2.mono hsr)) (by omega) hb2.size ?_; intro v4 w4' hO4' hg4; have hO4 : w4'.ownsRow wr.heap.size 5 1 v4 k (u8s (lb.take k)) := (by rw [Nat.zero_add, List.nil_append] at hO4'; exact hO4'); have hb4 := hb2.grown hg4 hb2.size (fun g e => (hR2.lt g e).1); obtain ⟨a4, c4, rfl⟩ := own_shape hO4; clear hO4' hg4))
                  have hxb : ∀ x ∈ lb.take k ++ la.drop k, 0 ≤ x ∧ x ≤ 255 := bytes_app (fun x hx => hbb x (List.mem_of_mem_take hx)) (fun x hx => hba x (List.mem_of_mem_drop hx))
                  have hX := bytesAt_row hO9 hxb
                  have hxl : (lb.take k ++ la.drop k).length = 128 := hX.1
                  have HOK : Hid ((New.decR (lb.take k ++ la.drop k)).1 = (decide (lb.take k ++ la.drop k = la) || decide (lb.take k ++ la.drop k = lb))) := by
                    show _ = _
                    have e := HT2.out k hlt
                    unfold New.decR
                    by_cases hc : newCodeOf (New.decP (lb.take k ++ la.drop k)) = lb.take k ++ la.drop k
                    · rw [if_pos ⟨hxl, hc⟩]
                      rcases e.1 hc with h1 | h1
                      · rw [decide_eq_true h1]; rfl
                      · rw [decide_eq_true h1, Bool.or_true]
                    · rw [if_neg (fun h => hc h.2), decide_eq_false (fun h => hc (e.2 (.inl h))), decide_eq_false (fun h => hc (e.2 (.inr h)))]
                      rfl
                  have HDI : Hid (∀ (w : World) (A B : Nat), B ≤ w.heap.size → BytesAt w A B a8 128 c8 (lb.take k ++ la.drop k) → Calls Try.prog 10 #[.slice a8 128 c8] w fun e w' => ∃ (q : Pg) (ka : Option Addr) (kc : Nat) (ea : Option Addr) (ec : Nat), e = .returned (.agg #[.bool (decide (lb.take k ++ la.drop k = la) || decide (lb.take k ++ la.drop k = lb)), .int .i64 q.kind, .int .i64 q.tx, .int .i64 q.id, .int .i64 q.root, .int .i64 q.count, .slice ka q.ks.length kc, .slice ea q.es.length ec, .int .i64 q.next, .string q.data]) ∧ Below w.heap.size w w') := by
                    intro w A B hB hb
                    refine (New.dec_impl a8 128 c8 _ w A B hB hb).mono ?_
                    rintro e w' ⟨ka, kc, ea, ec, rfl, _, _, _, hbel⟩
                    exact ⟨(New.decR (lb.take k ++ la.drop k)).2, ka, kc, ea, ec, by rw [HOK.out], hbel⟩
                  have brr : Below w.heap.size w w8 := br.trans (hb8.mono br.size)
                  have hA8 : BytesAt w8 w4.heap.size w6.heap.size (some ⟨g5, 0, none⟩) 128 k la := BytesAt.below HAr.out (hb8.mono hsr)
                  have hB8 : BytesAt w8 w5.heap.size w6.heap.size (some ⟨g6, 0, none⟩) 128 c6 lb := BytesAt.below HBr.out (hb8.mono hsr)
                  have hs8 := hb8.size
                  clear hO9 hO4 hb4 hb2 hR2 HAr HBr hBk hAk HOK HT2 br hb8
                  generalize lb.take k ++ la.drop k = xs at hxb hX hxl HDI
                  go_wp2_with fail
                  refine (HDI.out w8 _ _ (Nat.le_refl _) hX).mono ?_
                  rintro e w10 ⟨q', ka', kc', ea', ec', rfl, hb10⟩
                  have b10 := brr.trans (hb10.mono brr.size)
                  have hA10 := hA8.below (hb10.mono (by omega))
                  have hB10 := hB8.below (hb10.mono (by omega))
                  have hX10 := hX.below hb10
                  have hs10 := hb10.size
                  clear brr hA8 hB8 hX hb10 HDI
                  go_wp2_with fail
                  have hal : Below w10.heap.size w10 (w10.alloc (.cells #[.bool (decide (xs = la) || decide (xs = lb)), .int .i64 q'.kind, .int .i64 q'.tx, .int .i64 q'.id, .int .i64 q'.root, .int .i64 q'.count, .slice ka' q'.ks.length kc', .slice ea' q'.es.length ec', .int .i64 q'.next, .string q'.data] 32)) := (Below.refl _ _).alloc (Nat.le_refl _) _
                  have c0 : (w10.alloc (.cells #[.bool (decide (xs = la) || decide (xs = lb)), .int .i64 q'.kind, .int .i64 q'.tx, .int .i64 q'.id, .int .i64 q'.root, .int .i64 q'.count, .slice ka' q'.ks.length kc', .slice ea' q'.es.length ec', .int .i64 q'.next, .string q'.data] 32)).cell? ⟨w10.heap.size, 0, none⟩ = some (.bool (decide (xs = la) || decide (xs = lb))) := box_tenW (heap_alloc_new w10 (.cells #[.bool (decide (xs = la) || decide (xs = lb)), .int .i64 q'.kind, .int .i64 q'.tx, .int .i64 q'.id, .int .i64 q'.root, .int .i64 q'.count, .slice ka' q'.ks.length kc', .slice ea' q'.es.length ec', .int .i64 q'.next, .string q'.data] 32))
                  have b11 := b10.trans (hal.mono b10.size)
                  have hA11 := hA10.below (hal.mono (by omega))
                  have hB11 := hB10.below (hal.mono (by omega))
                  have hX11 := hX10.below (hal.mono (by omega))
                  have hs11 := hal.size
                  generalize w10.alloc (.cells #[.bool (decide (xs = la) || decide (xs = lb)), .int .i64 q'.kind, .int .i64 q'.tx, .int .i64 q'.id, .int .i64 q'.root, .int .i64 q'.count, .slice ka' q'.ks.length kc', .slice ea' q'.es.length ec', .int .i64 q'.next, .string q'.data] 32) = w11 at c0 b11 hA11 hB11 hX11 hs11 ⊢
                  clear hal b10 hA10 hB10 hX10
                  by_cases h1 : xs = la
                  · have e1 : decide (xs = la) = true := decide_eq_true h1
                    rw [e1, Bool.true_or] at c0
                    have L1 : ∀ n, Calls Try.prog 11 #[.slice a8 128 c8, .slice (some ⟨g5, 0, none⟩) 128 k] (w11.drewN n) fun e w' => e = .returned (.bool true) ∧ w' = w11.drewN n := fun n => by have HW := lwBytes_any a8 128 c8 xs (some ⟨g5, 0, none⟩) 128 k la (w11.drewN n) _ _ _ _ hX11 hA11; rw [e1] at HW; exact HW
                    clear h1 e1
                    go_quiet ((go_at_call 11; exact Calls.quiet_of_same (L1 _)))
                    clear L1
                    have b12 : Below w.heap.size w (w11.drewN nq) := b11.trans ⟨rfl, rfl, rfl, Nat.le_refl _, fun _ _ => rfl⟩
                    have hA12 : BytesAt (w11.drewN nq) w4.heap.size w6.heap.size (some ⟨g5, 0, none⟩) 128 k la := hA11
                    have hB12 : BytesAt (w11.drewN nq) w5.heap.size w6.heap.size (some ⟨g6, 0, none⟩) 128 c6 lb := hB11
                    have hs12 : w6.heap.size ≤ (w11.drewN nq).heap.size := by show w6.heap.size ≤ w11.heap.size; omega
                    clear hA11 hB11 hX11 b11 c0
                    generalize w11.drewN nq = w12 at b12 hA12 hB12 hs12 ⊢
                    go_wp2
                    go_roundw
                    case rel => exact ⟨k + 1, by omega, by go_num, b12, hs12, hA12, hB12⟩
                    case measure => simp [intOf]; omega
                  · have e1 : decide (xs = la) = false := decide_eq_false h1
                    rw [e1, Bool.false_or] at c0
                    have L1 : ∀ n, Calls Try.prog 11 #[.slice a8 128 c8, .slice (some ⟨g5, 0, none⟩) 128 k] (w11.drewN n) fun e w' => e = .returned (.bool false) ∧ w' = w11.drewN n := fun n => by have HW := lwBytes_any a8 128 c8 xs (some ⟨g5, 0, none⟩) 128 k la (w11.drewN n) _ _ _ _ hX11 hA11; rw [e1] at HW; exact HW
                    clear h1 e1
                    have hxx : ∃ b, decide (xs = lb) = b := ⟨_, rfl⟩
                    obtain ⟨b, e2⟩ := hxx
                    rw [e2] at c0
                    have L2 : ∀ n, Calls Try.prog 11 #[.slice a8 128 c8, .slice (some ⟨g6, 0, none⟩) 128 c6] (w11.drewN n) fun e w' => e = .returned (.bool b) ∧ w' = w11.drewN n := fun n => by have HW := lwBytes_any a8 128 c8 xs (some ⟨g6, 0, none⟩) 128 c6 lb (w11.drewN n) _ _ _ _ hX11 hB11; rw [e2] at HW; exact HW
                    clear e2
                    go_quiet (first | (go_at_call 11; exact Calls.quiet_of_same (L1 _)) | (go_at_call 11; exact Calls.quiet_of_same (L2 _)))
                    clear L1 L2
                    have hbn : (b != b) = false := by cases b <;> rfl
                    have b12 : Below w.heap.size w (w11.drewN nq) := b11.trans ⟨rfl, rfl, rfl, Nat.le_refl _, fun _ _ => rfl⟩
                    have hA12 : BytesAt (w11.drewN nq) w4.heap.size w6.heap.size (some ⟨g5, 0, none⟩) 128 k la := hA11
                    have hB12 : BytesAt (w11.drewN nq) w5.heap.size w6.heap.size (some ⟨g6, 0, none⟩) 128 c6 lb := hB11
                    have hs12 : w6.heap.size ≤ (w11.drewN nq).heap.size := by show w6.heap.size ≤ w11.heap.size; omega
                    clear hA11 hB11 hX11 b11 c0
                    generalize w11.drewN nq = w12 at b12 hA12 hB12 hs12 ⊢
                    go_wp2
                    go_roundw
                    case rel => exact ⟨k + 1, by omega, by go_num, b12, hs12, hA12, hB12⟩
                    case measure => simp [intOf]; omega
                · replace hAk := hAk hck
                  clear hAz hA hB
                  go_wp2_with fail
                  go_region_law (first
                    | (refine step_ab rfl _ _ rfl wr.heap.size _ k (lb.take k) (by simp [Act.eval]) hO4 (some ⟨g5, k, none⟩) (128 - k) (c5 - k) (la.drop k) _ _ (by simp [Act.eval]) (hAk.below (hb4.mono hsr)) (by omega) hb4.size ?_; intro v8 w8 hO8 hg8; have hO9 : w8.ownsRow wr.heap.size 5 1 v8 128 (u8s (lb.take k ++ la.drop k)) := (by have e : k + (128 - k) = 128 := (by omega); rw [e] at hO8; exact hO8); obtain ⟨a8, c8, rfl⟩ := own_shape hO9; have hb8 := hb4.grown hg8 hb4.size (fun g e => (hO4.lt g e).1); clear hO8 hg8)
                    | (refine step_ab rfl _ _ rfl wr.heap.size _ 0 [] (by simp [Act.eval]) hR2 (some ⟨g6, 0, none⟩) k c6 (lb.take k) _ _ (by simp [Act.eval]) (hBk.below (hb2.mono hsr)) (by omega) hb2.size ?_; intro v4 w4' hO4' hg4; have hO4 : w4'.ownsRow wr.heap.size 5 1 v4 k (u8s (lb.take k)) := (by rw [Nat.zero_add, List.nil_append] at hO4'; exact hO4'); have hb4 := hb2.grown hg4 hb2.size (fun g e => (hR2.lt g e).1); obtain ⟨a4, c4, rfl⟩ := own_shape hO4; clear hO4' hg4))
                  have hxb : ∀ x ∈ lb.take k ++ la.drop k, 0 ≤ x ∧ x ≤ 255 := bytes_app (fun x hx => hbb x (List.mem_of_mem_take hx)) (fun x hx => hba x (List.mem_of_mem_drop hx))
                  have hX := bytesAt_row hO9 hxb
                  have hxl : (lb.take k ++ la.drop k).length = 128 := hX.1
                  have HOK : Hid ((New.decR (lb.take k ++ la.drop k)).1 = (decide (lb.take k ++ la.drop k = la) || decide (lb.take k ++ la.drop k = lb))) := by
                    show _ = _
                    have e := HT2.out k hlt
                    unfold New.decR
                    by_cases hc : newCodeOf (New.decP (lb.take k ++ la.drop k)) = lb.take k ++ la.drop k
                    · rw [if_pos ⟨hxl, hc⟩]
                      rcases e.1 hc with h1 | h1
                      · rw [decide_eq_true h1]; rfl
                      · rw [decide_eq_true h1, Bool.or_true]
                    · rw [if_neg (fun h => hc h.2), decide_eq_false (fun h => hc (e.2 (.inl h))), decide_eq_false (fun h => hc (e.2 (.inr h)))]
                      rfl
                  have HDI : Hid (∀ (w : World) (A B : Nat), B ≤ w.heap.size → BytesAt w A B a8 128 c8 (lb.take k ++ la.drop k) → Calls Try.prog 10 #[.slice a8 128 c8] w fun e w' => ∃ (q : Pg) (ka : Option Addr) (kc : Nat) (ea : Option Addr) (ec : Nat), e = .returned (.agg #[.bool (decide (lb.take k ++ la.drop k = la) || decide (lb.take k ++ la.drop k = lb)), .int .i64 q.kind, .int .i64 q.tx, .int .i64 q.id, .int .i64 q.root, .int .i64 q.count, .slice ka q.ks.length kc, .slice ea q.es.length ec, .int .i64 q.next, .string q.data]) ∧ Below w.heap.size w w') := by
                    intro w A B hB hb
                    refine (New.dec_impl a8 128 c8 _ w A B hB hb).mono ?_
                    rintro e w' ⟨ka, kc, ea, ec, rfl, _, _, _, hbel⟩
                    exact ⟨(New.decR (lb.take k ++ la.drop k)).2, ka, kc, ea, ec, by rw [HOK.out], hbel⟩
                  have brr : Below w.heap.size w w8 := br.trans (hb8.mono br.size)
                  have hA8 : BytesAt w8 w4.heap.size w6.heap.size (some ⟨g5, 0, none⟩) 128 c5 la := BytesAt.below HAr.out (hb8.mono hsr)
                  have hB8 : BytesAt w8 w5.heap.size w6.heap.size (some ⟨g6, 0, none⟩) 128 c6 lb := BytesAt.below HBr.out (hb8.mono hsr)
                  have hs8 := hb8.size
                  clear hO9 hO4 hb4 hb2 hR2 HAr HBr hBk hAk HOK HT2 br hb8
                  generalize lb.take k ++ la.drop k = xs at hxb hX hxl HDI
                  go_wp2_with fail
                  refine (HDI.out w8 _ _ (Nat.le_refl _) hX).mono ?_
                  rintro e w10 ⟨q', ka', kc', ea', ec', rfl, hb10⟩
                  have b10 := brr.trans (hb10.mono brr.size)
                  have hA10 := hA8.below (hb10.mono (by omega))
                  have hB10 := hB8.below (hb10.mono (by omega))
                  have hX10 := hX.below hb10
                  have hs10 := hb10.size
                  clear brr hA8 hB8 hX hb10 HDI
                  go_wp2_with fail
                  have hal : Below w10.heap.size w10 (w10.alloc (.cells #[.bool (decide (xs = la) || decide (xs = lb)), .int .i64 q'.kind, .int .i64 q'.tx, .int .i64 q'.id, .int .i64 q'.root, .int .i64 q'.count, .slice ka' q'.ks.length kc', .slice ea' q'.es.length ec', .int .i64 q'.next, .string q'.data] 32)) := (Below.refl _ _).alloc (Nat.le_refl _) _
                  have c0 : (w10.alloc (.cells #[.bool (decide (xs = la) || decide (xs = lb)), .int .i64 q'.kind, .int .i64 q'.tx, .int .i64 q'.id, .int .i64 q'.root, .int .i64 q'.count, .slice ka' q'.ks.length kc', .slice ea' q'.es.length ec', .int .i64 q'.next, .string q'.data] 32)).cell? ⟨w10.heap.size, 0, none⟩ = some (.bool (decide (xs = la) || decide (xs = lb))) := box_tenW (heap_alloc_new w10 (.cells #[.bool (decide (xs = la) || decide (xs = lb)), .int .i64 q'.kind, .int .i64 q'.tx, .int .i64 q'.id, .int .i64 q'.root, .int .i64 q'.count, .slice ka' q'.ks.length kc', .slice ea' q'.es.length ec', .int .i64 q'.next, .string q'.data] 32))
                  have b11 := b10.trans (hal.mono b10.size)
                  have hA11 := hA10.below (hal.mono (by omega))
                  have hB11 := hB10.below (hal.mono (by omega))
                  have hX11 := hX10.below (hal.mono (by omega))
                  have hs11 := hal.size
                  generalize w10.alloc (.cells #[.bool (decide (xs = la) || decide (xs = lb)), .int .i64 q'.kind, .int .i64 q'.tx, .int .i64 q'.id, .int .i64 q'.root, .int .i64 q'.count, .slice ka' q'.ks.length kc', .slice ea' q'.es.length ec', .int .i64 q'.next, .string q'.data] 32) = w11 at c0 b11 hA11 hB11 hX11 hs11 ⊢
                  clear hal b10 hA10 hB10 hX10
                  by_cases h1 : xs = la
                  · have e1 : decide (xs = la) = true := decide_eq_true h1
                    rw [e1, Bool.true_or] at c0
                    have L1 : ∀ n, Calls Try.prog 11 #[.slice a8 128 c8, .slice (some ⟨g5, 0, none⟩) 128 c5] (w11.drewN n) fun e w' => e = .returned (.bool true) ∧ w' = w11.drewN n := fun n => by have HW := lwBytes_any a8 128 c8 xs (some ⟨g5, 0, none⟩) 128 c5 la (w11.drewN n) _ _ _ _ hX11 hA11; rw [e1] at HW; exact HW
                    clear h1 e1
                    go_quiet ((go_at_call 11; exact Calls.quiet_of_same (L1 _)))
                    clear L1
                    have b12 : Below w.heap.size w (w11.drewN nq) := b11.trans ⟨rfl, rfl, rfl, Nat.le_refl _, fun _ _ => rfl⟩
                    have hA12 : BytesAt (w11.drewN nq) w4.heap.size w6.heap.size (some ⟨g5, 0, none⟩) 128 c5 la := hA11
                    have hB12 : BytesAt (w11.drewN nq) w5.heap.size w6.heap.size (some ⟨g6, 0, none⟩) 128 c6 lb := hB11
                    have hs12 : w6.heap.size ≤ (w11.drewN nq).heap.size := by show w6.heap.size ≤ w11.heap.size; omega
                    clear hA11 hB11 hX11 b11 c0
                    generalize w11.drewN nq = w12 at b12 hA12 hB12 hs12 ⊢
                    go_wp2
                    go_roundw
                    case rel => exact ⟨k + 1, by omega, by go_num, b12, hs12, hA12, hB12⟩
                    case measure => simp [intOf]; omega
                  · have e1 : decide (xs = la) = false := decide_eq_false h1
                    rw [e1, Bool.false_or] at c0
                    have L1 : ∀ n, Calls Try.prog 11 #[.slice a8 128 c8, .slice (some ⟨g5, 0, none⟩) 128 c5] (w11.drewN n) fun e w' => e = .returned (.bool false) ∧ w' = w11.drewN n := fun n => by have HW := lwBytes_any a8 128 c8 xs (some ⟨g5, 0, none⟩) 128 c5 la (w11.drewN n) _ _ _ _ hX11 hA11; rw [e1] at HW; exact HW
                    clear h1 e1
                    have hxx : ∃ b, decide (xs = lb) = b := ⟨_, rfl⟩
                    obtain ⟨b, e2⟩ := hxx
                    rw [e2] at c0
                    have L2 : ∀ n, Calls Try.prog 11 #[.slice a8 128 c8, .slice (some ⟨g6, 0, none⟩) 128 c6] (w11.drewN n) fun e w' => e = .returned (.bool b) ∧ w' = w11.drewN n := fun n => by have HW := lwBytes_any a8 128 c8 xs (some ⟨g6, 0, none⟩) 128 c6 lb (w11.drewN n) _ _ _ _ hX11 hB11; rw [e2] at HW; exact HW
                    clear e2
                    go_quiet (first | (go_at_call 11; exact Calls.quiet_of_same (L1 _)) | (go_at_call 11; exact Calls.quiet_of_same (L2 _)))
                    clear L1 L2
                    have hbn : (b != b) = false := by cases b <;> rfl
                    have b12 : Below w.heap.size w (w11.drewN nq) := b11.trans ⟨rfl, rfl, rfl, Nat.le_refl _, fun _ _ => rfl⟩
                    have hA12 : BytesAt (w11.drewN nq) w4.heap.size w6.heap.size (some ⟨g5, 0, none⟩) 128 c5 la := hA11
                    have hB12 : BytesAt (w11.drewN nq) w5.heap.size w6.heap.size (some ⟨g6, 0, none⟩) 128 c6 lb := hB11
                    have hs12 : w6.heap.size ≤ (w11.drewN nq).heap.size := by show w6.heap.size ≤ w11.heap.size; omega
                    clear hA11 hB11 hX11 b11 c0
                    generalize w11.drewN nq = w12 at b12 hA12 hB12 hs12 ⊢
                    go_wp2
                    go_roundw
                    case rel => exact ⟨k + 1, by omega, by go_num, b12, hs12, hA12, hB12⟩
                    case measure => simp [intOf]; omega
              · go_wp2
                go_ret
                exact ⟨rfl, br⟩
    · go_wp2
      go_ret
      exact ⟨rfl, Below.refl _ _⟩
  · go_wp2
    go_ret
    exact ⟨rfl, Below.refl _ _⟩
end Go.Proofs.Ytcmhobbpeaeebaa
